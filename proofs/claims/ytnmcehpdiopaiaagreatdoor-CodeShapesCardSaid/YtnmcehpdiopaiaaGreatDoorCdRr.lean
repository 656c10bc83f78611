/- The document's Right and Size of an instruction. -/
import Derived.Test.YtnmcehpdiopaiaaGreatDoorCdNAll
import Derived.Test.YtnmcehpdiopaiaaGreatDoorCdT
namespace Go.Proofs.YtnmcehpdiopaiaaGreatDoor.Cd
open Go.RowKit Ty
set_option linter.unusedSimpArgs false
set_option linter.unusedVariables false

theorem rs_other {op n t b : Int} (h1 : 2 ≤ op) (h2 : op ≤ 17) (ht : t = 0) (hb : b = 0) (hn : 0 ≤ n) : rightS ⟨op, n, t, b⟩ = (decide (lo op ≤ n) && decide (n ≤ hi op)) := by
  subst ht hb
  unfold rightS
  have hk : known op = true := by simp [known]; omega
  simp only [hk, Bool.true_and]
  rw [if_neg (by omega)]
  simp
theorem rs_bad {op n t b : Int} (h1 : ¬ op = 1) (h : ¬ (t = 0 ∧ b = 0)) : rightS ⟨op, n, t, b⟩ = false := by
  unfold rightS
  simp only []
  rw [if_neg h1]
  have : (t == 0 && b == 0) = false := by
    cases h3 : (t == 0 && b == 0) with
    | false => rfl
    | true =>
      simp only [Bool.and_eq_true, beq_iff_eq] at h3
      exact absurd h3 h
  rw [this]
  simp
theorem rs_neg {op n t b : Int} (hn : n < 0) : rightS ⟨op, n, t, b⟩ = false := by
  unfold rightS
  have : decide (lo op ≤ n) = false := by
    have := lo_pos op
    simp; omega
  simp [this]
theorem lo_hi (op : Int) : (wd op = 0 ∧ lo op = 0 ∧ hi op = 0) ∨ (wd op = 2 ∧ lo op = 0 ∧ hi op = 65535) ∨ (op = 6 ∧ wd op = 1 ∧ lo op = 1 ∧ hi op = 4) ∨ (op = 7 ∧ wd op = 1 ∧ lo op = 1 ∧ hi op = 11) ∨ ((op == 6) = false ∧ (op == 7) = false ∧ wd op = 1 ∧ lo op = 0 ∧ hi op = 255) := by
  by_cases h6 : op = 6
  · subst h6; right; right; left; exact ⟨rfl, rfl, rfl, rfl⟩
  by_cases h7 : op = 7
  · subst h7; right; right; right; left; exact ⟨rfl, rfl, rfl, rfl⟩
  have e1 : lo op = 0 := by unfold lo; rw [if_neg (by omega)]
  have e2 : hi op = if wd op = 1 then 255 else if wd op = 2 then 65535 else 0 := by unfold hi; rw [if_neg h6, if_neg h7]
  have hw : wd op = 0 ∨ wd op = 1 ∨ wd op = 2 := by
    unfold wd
    by_cases q1 : op = 2 ∨ op = 3 ∨ op = 6 ∨ op = 7
    · rw [if_pos q1]; omega
    · rw [if_neg q1]
      by_cases q2 : op = 4 ∨ op = 5 ∨ op = 8 ∨ op = 9 ∨ op = 10 ∨ op = 15
      · rw [if_pos q2]; omega
      · rw [if_neg q2]; omega
  rcases hw with hw | hw | hw
  · left; exact ⟨hw, e1, by rw [e2, hw]; rfl⟩
  · right; right; right; right; exact ⟨by simp [h6], by simp [h7], hw, e1, by rw [e2, hw]; rfl⟩
  · right; left; exact ⟨hw, e1, by rw [e2, hw]; rfl⟩
set_option maxRecDepth 20000 in
set_option maxHeartbeats 2000000 in
theorem rright_any (i : In) (hb : U64 i.b) (w : World) : Calls Tryz.prog 42 #[inV i] w fun e w' => e = .returned (.bool (rightS i)) ∧ Fr (fun _ => False) w w' := by
  obtain ⟨op, n, t, b⟩ := i
  simp only [] at hb
  obtain ⟨R, hR⟩ : ∃ R, R = rightS ⟨op, n, t, b⟩ := ⟨_, rfl⟩
  rw [← hR]
  have kv := fun W => rrightv_any t b hb W
  have kw := fun W => rwidth_any op W
  obtain ⟨c0, c1, c2, c3⟩ := box4 (alloc_new w (.cells #[ci op, ci n, ci t, .int .u64 b] 84 (0, 0)))
  have hRH : Hidden (R = rightS ⟨op, n, t, b⟩) := hR
  have fw : Hidden (Fr (fun _ => False) w (w.alloc (.cells #[ci op, ci n, ci t, .int .u64 b] 84 (0, 0)))) := Fr.alloc _ _ _
  clear hR hb
  by_cases h1 : op < 1
  · have e : R = false := by
      rw [show R = _ from hRH]; unfold rightS
      have : known op = false := by simp [known]; omega
      simp [this]
    go_enter Tryz.func42, Tryz.ntmps42
    go_wp2_with fail
    go_ret
    exact ⟨by first | rfl | (rw [e]; rfl), fw⟩
  by_cases h17 : 17 < op
  · have e : R = false := by
      rw [show R = _ from hRH]; unfold rightS
      have : known op = false := by simp [known]; omega
      simp [this]
    go_enter Tryz.func42, Tryz.ntmps42
    go_wp2_with fail
    go_ret
    exact ⟨by first | rfl | (rw [e]; rfl), fw⟩
  have h1b : decide (op < 1) = false := by simpa using h1
  have h17b : decide (17 < op) = false := by simpa using h17
  by_cases he : op = 1
  · subst he
    by_cases hn : n = 0
    · subst hn
      have e : R = rightV t b := by
        rw [show R = _ from hRH]
        unfold rightS
        simp [show known 1 = true from rfl, show lo 1 = 0 from rfl, show hi 1 = 0 from rfl]
      rw [e]
      go_enter Tryz.func42, Tryz.ntmps42
      go_wp2_with (first
        | (go_at_call 66; refine (kv _).mono ?_; rintro e w2 ⟨rfl, f2⟩))
      go_ret
      exact ⟨rfl, (show Fr _ w _ from fw).same f2⟩
    · have hnb : (n == 0) = false := by simpa using hn
      have e : R = false := by
        rw [show R = _ from hRH]
        unfold rightS
        simp only []
        rw [show lo 1 = 0 from rfl, show hi 1 = 0 from rfl]
        by_cases q : 0 ≤ n
        · have : decide (n ≤ 0) = false := by simp; omega
          simp [this]
        · have : decide (0 ≤ n) = false := by simp; omega
          simp [this]
      clear hn
      go_enter Tryz.func42, Tryz.ntmps42
      go_wp2_with fail
      go_ret
      exact ⟨by first | rfl | (rw [e]; rfl), fw⟩
  have heb : (op == 1) = false := by simpa using he
  have hop : 2 ≤ op ∧ op ≤ 17 := by omega
  by_cases ht : t = 0
  · by_cases hb : b = 0
    · by_cases hn : n < 0
      · have e : R = false := by rw [show R = _ from hRH]; exact rs_neg hn
        have hnb : decide (n < 0) = true := by simpa using hn
        subst ht hb
        clear h1 h17 he hop hn
        go_enter Tryz.func42, Tryz.ntmps42
        go_wp2_with fail
        go_ret
        exact ⟨by first | rfl | (rw [e]; rfl), fw⟩
      · have e : R = (decide (lo op ≤ n) && decide (n ≤ hi op)) := by rw [show R = _ from hRH]; exact rs_other hop.1 hop.2 ht hb (by omega)
        have hnb : decide (n < 0) = false := by simpa using hn
        have hn0 : 0 ≤ n := by omega
        subst ht hb
        rcases lo_hi op with ⟨e1, e2, e3⟩ | ⟨e1, e2, e3⟩ | ⟨rfl, e1, e2, e3⟩ | ⟨rfl, e1, e2, e3⟩ | ⟨h6, h7, e1, e2, e3⟩
        all_goals
          rw [e1] at kw
          rw [e2, e3] at e
          rw [e]
          clear h1 h17 he hop hn e e2 e3 e1 hRH
          go_enter Tryz.func42, Tryz.ntmps42
          go_wp2_with (first
            | (go_at_call 67; refine (kw _).mono ?_; rintro e w2 ⟨rfl, rfl⟩))
          all_goals
            go_ret
            refine ⟨ret_bl ?_, fw⟩
            rw [Bool.eq_iff_iff]
            simp only [Bool.and_eq_true, decide_eq_true_eq, beq_iff_eq, Bool.false_eq_true, false_iff]
            omega
    · have e : R = false := by rw [show R = _ from hRH]; exact rs_bad he (fun h => hb h.2)
      have hbb : (b != 0) = true := by simpa using hb
      subst ht
      clear h1 h17 he hop hb
      go_enter Tryz.func42, Tryz.ntmps42
      go_wp2_with fail
      go_ret
      exact ⟨by first | rfl | (rw [e]; rfl), fw⟩
  · have e : R = false := by rw [show R = _ from hRH]; exact rs_bad he (fun h => ht h.1)
    have htb : (t != 0) = true := by simpa using ht
    clear h1 h17 he hop ht
    go_enter Tryz.func42, Tryz.ntmps42
    go_wp2_with fail
    go_ret
    exact ⟨by first | rfl | (rw [e]; rfl), fw⟩
end Go.Proofs.YtnmcehpdiopaiaaGreatDoor.Cd
