/- The document's mark and number. -/
import Derived.Test.YteijjaabngkbjaaGreatDoorLxR1
namespace Go.Proofs.YteijjaabngkbjaaGreatDoor
open Go.RowKit Lx
set_option linter.unusedSimpArgs false
set_option linter.unusedVariables false

def oneL : By := [40, 41, 123, 125, 44, 59, 58, 46, 61, 43, 45, 42, 47, 37, 60, 62, 33]
theorem fr_dn0 (w : World) (n : Nat) : Fr (fun _ => False) w (w.drewN n) := ⟨rfl, rfl, Nat.le_refl _, fun _ _ _ => rfl⟩
theorem one_mem (c : UInt8) : one c = decide (c ∈ oneL) := by
  rw [Bool.eq_iff_iff]
  simp only [one, oneL, Bool.or_eq_true, beq_iff_eq, decide_eq_true_eq, List.mem_cons, List.not_mem_nil, or_false, or_assoc]

set_option maxRecDepth 20000 in
set_option maxHeartbeats 1000000 in
theorem rmark_one (l : By) (i : Nat) (c : UInt8) (r : Nat) (hi : i < l.length) (hl : l.length ≤ 9223372036854775800) (hc : Hidden (l[i]? = some c)) (hr : Hidden ((if one c = true then 1 else 0) = r))
    (hq : (¬ i + 2 ≤ l.length) ∨ ∃ q : By, i + 2 ≤ l.length ∧ (l.drop i).take 2 = q ∧ (q == [60, 61]) = false ∧ (q == [62, 61]) = false ∧ (q == [61, 61]) = false ∧ (q == [33, 61]) = false ∧ (q == [38, 38]) = false ∧ (q == [124, 124]) = false) (w : World) :
    Calls Tryz.prog 96 #[.string ⟨l.toArray⟩, .int .i64 (i : Int)] w fun e w' => e = .returned (.int .i64 (r : Int)) ∧ Fr (fun _ => False) w w' := by
  have hs := str_len l
  have hx := str_index l i c hc
  rcases hq with hq | ⟨q, hq, hqe, h1, h2, h3, h4, h5, h6⟩
  case' inl => have hq' : decide ((i : Int) + 2 ≤ (l.length : Int)) = false := decide_eq_false (by omega)
  case' inr =>
    have hsl : ∀ w, (Instr.slice 9 (.string ⟨l.toArray⟩) (some (.int .i64 (i : Int))) (some (.int .i64 ((i : Int) + 2))) none).run Tryz.prog w = .ok (.string ⟨q.toArray⟩) w := by
      intro w
      have := slice_mid l i (i + 2) (by omega) hq (by omega) w
      rw [show i + 2 - i = 2 by omega, hqe, show ((i + 2 : Nat) : Int) = (i : Int) + 2 by omega] at this
      exact this
    clear hqe
  all_goals
    go_enter Tryz.func96, Tryz.ntmps96
    go_wp2_with fail
    go_loopg [7] 17 (fun k iv wr => ∃ j : Nat, iv = .int .i64 (j : Int) ∧ j ≤ 17 ∧ (∀ d ∈ oneL.take j, d ≠ c) ∧ k = 17 - j ∧ Fr (fun _ => False) w wr)
    case atStart => exact ⟨0, rfl, by omega, by simp, rfl, Fr.refl _ _⟩
    case round =>
      obtain ⟨j, rfl, hj, hno, hgk, hfr⟩ := hrel
      have hgkH : Hidden (gk = 17 - j) := hgk
      have hnoH : Hidden (∀ d ∈ oneL.take j, d ≠ c) := hno
      clear hgk hno
      by_cases hjl : j < 17
      · obtain ⟨d, hd⟩ : ∃ d, oneL[j]? = some d := ⟨oneL[j]'hjl, List.getElem?_eq_getElem hjl⟩
        have hxo : ∀ w, (Instr.index 9 (.string ⟨#[40, 41, 123, 125, 44, 59, 58, 46, 61, 43, 45, 42, 47, 37, 60, 62, 33]⟩) (.int .i64 (j : Int))).run Tryz.prog w = .ok (.int .u8 (d.toNat : Int)) w := str_index oneL j d hd
        by_cases hdc : d = c
        · subst hdc
          have hrr : Hidden (1 = r) := by
            show _ = _
            rw [← (show _ = r from hr), one_mem, if_pos]
            exact decide_eq_true (List.mem_of_getElem? hd)
          have he : ((d.toNat : Int) == (d.toNat : Int)) = true := by simp
          clear hd
          go_wp2_with fail
          go_quiet (fail)
          go_wp2_with fail
          go_ret
          exact ⟨by cases (show 1 = r from hrr); rfl, hfr.same (Fr.mono (fr_dn0 _ _) (fun _ _ f => f))⟩
        · have he : ((d.toNat : Int) == (c.toNat : Int)) = false := by
            rw [beq_eq_false_iff_ne]
            intro e
            exact hdc (UInt8.toNat_inj.1 (by omega))
          have he2 : (d.toNat == c.toNat) = false := by
            rw [beq_eq_false_iff_ne]
            intro e
            exact hdc (UInt8.toNat_inj.1 e)
          have hnx : Hidden (∀ x ∈ oneL.take (j + 1), x ≠ c) := by
            intro x hxm
            rw [List.take_add_one, hd] at hxm
            simp only [List.mem_append, Option.mem_toList, Option.some.injEq] at hxm
            rcases hxm with hxm | rfl
            · exact (show ∀ d ∈ oneL.take j, d ≠ c from hnoH) x hxm
            · exact hdc
          clear hd hdc
          go_wp2_with fail
          go_quiet (fail)
          go_wp2_with fail
          go_roundg (17 - (j + 1))
          case measure =>
            have : gk = 17 - j := hgkH
            omega
          case rel => exact ⟨j + 1, by go_num, by omega, hnx, rfl, hfr.same (fr_dn0 _ _)⟩
      · obtain rfl : j = 17 := by omega
        have hrr : Hidden (0 = r) := by
          show _ = _
          rw [← (show _ = r from hr), one_mem, if_neg]
          rw [decide_eq_true_eq]
          intro hm
          exact (show ∀ d ∈ oneL.take 17, d ≠ c from hnoH) c hm rfl
        go_wp2_with fail
        go_ret
        exact ⟨by cases (show 0 = r from hrr); rfl, hfr⟩
set_option maxRecDepth 20000 in
set_option maxHeartbeats 1000000 in
theorem rmark_two (l : By) (i : Nat) (q : By) (hl : l.length ≤ 9223372036854775800) (hi : i + 2 ≤ l.length) (hqe : Hidden ((l.drop i).take 2 = q))
    (hq : q = [60, 61] ∨ q = [62, 61] ∨ q = [61, 61] ∨ q = [33, 61] ∨ q = [38, 38] ∨ q = [124, 124]) (w : World) :
    Calls Tryz.prog 96 #[.string ⟨l.toArray⟩, .int .i64 (i : Int)] w fun e w' => e = .returned (.int .i64 2) ∧ Fr (fun _ => False) w w' := by
  have hs := str_len l
  have hsl : ∀ w, (Instr.slice 9 (.string ⟨l.toArray⟩) (some (.int .i64 (i : Int))) (some (.int .i64 ((i : Int) + 2))) none).run Tryz.prog w = .ok (.string ⟨q.toArray⟩) w := by
    intro w
    have := slice_mid l i (i + 2) (by omega) hi (by omega) w
    rw [show i + 2 - i = 2 by omega, show (l.drop i).take 2 = q from hqe, show ((i + 2 : Nat) : Int) = (i : Int) + 2 by omega] at this
    exact this
  rcases hq with rfl | rfl | rfl | rfl | rfl | rfl
  all_goals
    go_enter Tryz.func96, Tryz.ntmps96
    go_wp2_with fail
    go_ret
    exact ⟨rfl, Fr.refl _ _⟩
theorem rmark_any (l : By) (i r : Nat) (hi : i < l.length) (hl : l.length ≤ 9223372036854775800) (hr : mkLen (l.drop i) = r) (w : World) :
    Calls Tryz.prog 96 #[.string ⟨l.toArray⟩, .int .i64 (i : Int)] w fun e w' => e = .returned (.int .i64 (r : Int)) ∧ Fr (fun _ => False) w w' := by
  obtain ⟨a, ha⟩ : ∃ a, l[i]? = some a := ⟨l[i], List.getElem?_eq_getElem hi⟩
  have ed := drop_at ha
  by_cases h2 : i + 2 ≤ l.length
  · obtain ⟨b, hb⟩ : ∃ b, l[i + 1]? = some b := ⟨l[i + 1]'(by omega), List.getElem?_eq_getElem (by omega)⟩
    have ed2 := drop_at hb
    rw [ed2] at ed
    have et : (l.drop i).take 2 = [a, b] := by rw [ed]; simp
    have ht := two_eq a b
    cases h3 : two a b
    · have hne : ¬ ([a, b] = [60, 61] ∨ [a, b] = [62, 61] ∨ [a, b] = [61, 61] ∨ [a, b] = [33, 61] ∨ [a, b] = [38, 38] ∨ [a, b] = [124, 124]) := fun h => by rw [ht.2 h] at h3; cases h3
      refine rmark_one l i a r hi hl ha (by show _ = _; rw [← hr, ed]; simp [mkLen, h3]) (Or.inr ⟨[a, b], h2, et, ?_, ?_, ?_, ?_, ?_, ?_⟩) w
      all_goals (rw [beq_eq_false_iff_ne]; intro e; exact hne (by simp [e]))
    · have := rmark_two l i [a, b] hl h2 et (ht.1 h3) w
      rw [← hr, ed, show mkLen (a :: b :: l.drop (i + 1 + 1)) = 2 by simp [mkLen, h3]]
      exact this
  · have e1 : l.drop (i + 1) = [] := List.drop_eq_nil_of_le (by omega)
    rw [e1] at ed
    exact rmark_one l i a r hi hl ha (by show _ = _; rw [← hr, ed]; simp [mkLen]) (Or.inl h2) w
end Go.Proofs.YteijjaabngkbjaaGreatDoor
