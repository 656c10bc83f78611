/- Plain: what ways answers is where the instruction leads. -/
import Derived.Test.YtnmcehpdiopaiaaGreatDoorCdQ
import Derived.Test.YtnmcehpdiopaiaaGreatDoorCdY
namespace Go.Proofs.YtnmcehpdiopaiaaGreatDoor.Cd
open Go.RowKit Ty
set_option linter.unusedSimpArgs false
set_option linter.unusedVariables false

theorem wyR_way (f : Fu) (p : Fm) (k n : Nat) (s : Sp) (hs fit en : Bool) (nu N : Int) (T : List Int) (hn : f.cd.length = n) (hk : k < n) (hi : (f.cd.getD k default).n = N) (h0 : 0 ≤ N) (hov : s.tr.length ≤ 32)
    (hst : stepS f p (f.cd.getD k default) s = if hs = true ∧ fit = true then some ((if en then none else some ⟨T, s.tr⟩), (if nu = 4 then some ⟨T, s.tr⟩ else none)) else none)
    (hnu : nu = 4 → hs = decide (N < n)) (hsm : en = true → nu ≠ 4 → T.length ≤ 512) :
    wyR k n hs fit en nu N T s = ((wayS f p k s).1, (wayS f p k s).2.map fun x => ((x.1 : Int), x.2)) := by
  have ho : over ⟨T, s.tr⟩ = decide (512 < T.length) := by
    unfold over
    rw [decide_eq_false (show ¬ 32 < (⟨T, s.tr⟩ : Sp).tr.length by simp only; omega)]
    simp
  by_cases h1 : hs = true ∧ fit = true
  · obtain ⟨rfl, rfl⟩ := h1
    rw [if_pos ⟨rfl, rfl⟩] at hst
    unfold wayS
    rw [hst, hi, hn]
    simp only []
    unfold wyR
    have hN : nu = 4 → N < n := fun e => by have := hnu e; simpa using this.symm
    cases en with
    | false =>
      by_cases hl : k + 1 = n
      · rw [if_pos (Or.inr (Or.inl ⟨rfl, hl⟩))]
        have : decide (n ≤ k + 1) = true := by simp; omega
        simp [this]
      · have hl2 : decide (n ≤ k + 1) = false := by simp; omega
        rw [if_neg (by simp [hl])]
        by_cases h4 : nu = 4
        · have hN' : decide ((n : Int) ≤ N) = false := by have := hN h4; simp; omega
          simp only [if_pos h4, hl2, hN', Bool.and_false, Bool.or_false, anyO, ho, Bool.false_eq_true, if_false, Option.isSome_some]
          by_cases hb : 512 < T.length
          · simp [hb]
          · simp [hb]
            omega
        · simp only [if_neg h4, hl2, Bool.and_false, Bool.or_false, anyO, ho, Bool.false_eq_true, if_false, Option.isSome_some, Option.isSome_none, Bool.false_and]
          by_cases hb : 512 < T.length
          · simp [hb]
          · simp [hb]
    | true =>
      rw [if_neg (by simp)]
      by_cases h4 : nu = 4
      · have hN' : decide ((n : Int) ≤ N) = false := by have := hN h4; simp; omega
        simp only [if_pos h4, hN', Bool.and_false, Bool.or_false, anyO, ho, if_true, Option.isSome_none, Bool.false_and, Bool.false_or, Bool.false_eq_true, if_false]
        by_cases hb : 512 < T.length
        · simp [hb]
        · simp [hb]
          omega
      · have := hsm rfl h4
        simp only [if_neg h4, anyO, if_true, Option.isSome_none, Bool.false_and, Bool.or_false, Bool.false_eq_true, if_false]
        simp
        omega
  · rw [if_neg h1] at hst
    unfold wayS
    rw [hst]
    simp only [List.map_nil]
    unfold wyR
    rw [if_pos]
    by_cases e : hs = false
    · exact Or.inl e
    · have e' : hs = true := by simpa using e
      refine Or.inr (Or.inr ?_)
      cases fit
      · rfl
      · exact absurd ⟨e', rfl⟩ h1
end Go.Proofs.YtnmcehpdiopaiaaGreatDoor.Cd
