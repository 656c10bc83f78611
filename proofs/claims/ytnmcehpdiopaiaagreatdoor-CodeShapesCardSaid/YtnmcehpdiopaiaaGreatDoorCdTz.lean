/- Plain: what is in the open tries; a place gone through keeps it. -/
import Derived.Test.YtnmcehpdiopaiaaGreatDoorCdP
import Derived.Test.YtnmcehpdiopaiaaGreatDoorCdT
namespace Go.Proofs.YtnmcehpdiopaiaaGreatDoor.Cd
open Go.RowKit Ty
set_option linter.unusedSimpArgs false
set_option linter.unusedVariables false

/-- Of each open try: its place has two bytes, its stack is not more than there may be. -/
def Tz (s : Sp) : Prop := ∀ x ∈ s.tr, 0 ≤ x.1 ∧ x.1 ≤ 65535 ∧ x.2.length ≤ 512
def TzO (a : Option Sp) : Prop := ∀ x, a = some x → Tz x
theorem on_tz {s : Sp} {st : List Int} {a b : Option Sp} (h : Tz s) (e : on s st = some (a, b)) : TzO a ∧ TzO b := by
  have e : some (some (⟨st, s.tr⟩ : Sp), (none : Option Sp)) = some (a, b) := e
  cases e
  exact ⟨fun x hx => by cases hx; exact h, fun x hx => by cases hx⟩
theorem tz_of {s : Sp} {st : List Int} (h : Tz s) : TzO (some ⟨st, s.tr⟩) := fun x hx => by cases hx; exact h
theorem tz_no : TzO none := fun x hx => by cases hx
theorem step_tz {f : Fu} {p : Fm} {i : In} {s : Sp} {a b : Option Sp} (hi : 0 ≤ i.n ∧ i.n ≤ 65535) (hs : s.st.length ≤ 512) (ht : Tz s) (h : stepS f p i s = some (a, b)) : TzO a ∧ TzO b := by
  rw [stepS.eq_1] at h
  by_cases c1 : i.op = 1
  · rw [if_pos c1] at h
    exact on_tz ht h
  rw [if_neg c1] at h
  by_cases c2 : i.op = 2
  · rw [if_pos c2] at h
    obtain ⟨_, _, h⟩ := Option.bind_eq_some_iff.1 h
    exact on_tz ht h
  rw [if_neg c2] at h
  by_cases c3 : i.op = 3
  · rw [if_pos c3] at h
    obtain ⟨_, _, h⟩ := Option.bind_eq_some_iff.1 h
    obtain ⟨_, _, h⟩ := Option.bind_eq_some_iff.1 h
    exact on_tz ht h
  rw [if_neg c3] at h
  by_cases c4 : i.op = 4
  · rw [if_pos c4] at h
    obtain ⟨_, _, h⟩ := Option.bind_eq_some_iff.1 h
    exact on_tz ht h
  rw [if_neg c4] at h
  by_cases c5 : i.op = 5
  · rw [if_pos c5] at h
    obtain ⟨_, _, h⟩ := Option.bind_eq_some_iff.1 h
    obtain ⟨_, _, h⟩ := Option.bind_eq_some_iff.1 h
    exact on_tz ht h
  rw [if_neg c5] at h
  by_cases c6 : i.op = 6
  · rw [if_pos c6] at h
    obtain ⟨_, _, h⟩ := Option.bind_eq_some_iff.1 h
    split at h
    · exact on_tz ht h
    · cases h
  rw [if_neg c6] at h
  by_cases c7 : i.op = 7
  · rw [if_pos c7] at h
    obtain ⟨_, _, h⟩ := Option.bind_eq_some_iff.1 h
    obtain ⟨_, _, h⟩ := Option.bind_eq_some_iff.1 h
    split at h
    · exact on_tz ht h
    · cases h
  rw [if_neg c7] at h
  by_cases c8 : i.op = 8
  · rw [if_pos c8] at h
    cases h
    exact ⟨tz_no, fun x hx => by cases hx; exact ht⟩
  rw [if_neg c8] at h
  by_cases c9 : i.op = 9
  · rw [if_pos c9] at h
    obtain ⟨_, _, h⟩ := Option.bind_eq_some_iff.1 h
    cases h
    exact ⟨tz_of ht, tz_of ht⟩
  rw [if_neg c9] at h
  by_cases c10 : i.op = 10
  · rw [if_pos c10] at h
    obtain ⟨_, _, h⟩ := Option.bind_eq_some_iff.1 h
    obtain ⟨_, _, h⟩ := Option.bind_eq_some_iff.1 h
    exact on_tz ht h
  rw [if_neg c10] at h
  by_cases c11 : i.op = 11
  · rw [if_pos c11] at h
    split at h
    · cases h; exact ⟨tz_no, tz_no⟩
    · obtain ⟨_, _, h⟩ := Option.bind_eq_some_iff.1 h
      cases h; exact ⟨tz_no, tz_no⟩
  rw [if_neg c11] at h
  by_cases c12 : i.op = 12
  · rw [if_pos c12] at h
    obtain ⟨_, _, h⟩ := Option.bind_eq_some_iff.1 h
    exact on_tz ht h
  rw [if_neg c12] at h
  by_cases c13 : i.op = 13
  · rw [if_pos c13] at h
    obtain ⟨_, _, h⟩ := Option.bind_eq_some_iff.1 h
    cases h; exact ⟨tz_no, tz_no⟩
  rw [if_neg c13] at h
  by_cases c14 : i.op = 14
  · rw [if_pos c14] at h
    exact on_tz ht h
  rw [if_neg c14] at h
  by_cases c15 : i.op = 15
  · rw [if_pos c15] at h
    cases h
    refine ⟨fun x hx => ?_, tz_of ht⟩
    cases hx
    intro y hy
    rcases List.mem_append.1 hy with hy | hy
    · exact ht y hy
    · simp at hy
      subst hy
      exact ⟨hi.1, hi.2, hs⟩
  rw [if_neg c15] at h
  by_cases c16 : i.op = 16
  · rw [if_pos c16] at h
    split at h
    · cases h
    · cases h
      exact ⟨fun x hx => by cases hx; exact fun y hy => ht y (List.dropLast_subset _ hy), tz_no⟩
  rw [if_neg c16] at h
  obtain ⟨_, _, h⟩ := Option.bind_eq_some_iff.1 h
  exact on_tz ht h
theorem right_n {i : In} (h : rightS i = true) : 0 ≤ i.n ∧ i.n ≤ 65535 := by
  obtain ⟨h1, h2, h3, h4⟩ := right_parts h
  have hl := lo_pos i.op
  refine ⟨Int.le_trans hl h3, Int.le_trans h4 ?_⟩
  unfold hi
  repeat' split
  all_goals decide
theorem round_tz {f : Fu} {p : Fm} {L L' : Cs} {k : Nat} {s : Sp} (hi : rightS (f.cd.getD k default) = true) (hov : over s = false) (hL : ∀ (j : Nat) g x, L[j]? = some (some (g, x)) → Tz x) (hk : L[k]? = some (some (false, s))) (h : roundS f p L k s = .ok L') : ∀ (j : Nat) g x, L'[j]? = some (some (g, x)) → Tz x := by
  have hsl : s.st.length ≤ 512 := by unfold over at hov; simp at hov; exact hov.1
  unfold roundS at h
  split at h
  · cases h
  rename_i a b hs
  have ho := step_tz (right_n hi) hsl (hL _ _ _ hk) hs
  split at h
  · cases h
  split at h
  · cases h
  split at h
  · cases h
  rename_i L1 h1
  split at h
  · cases h
  rename_i L2 h2
  cases h
  have note_all : ∀ {A B : Cs} {j' : Nat} {z : Option Sp}, noteO A j' z = some B → TzO z → (∀ (j : Nat) g x, A[j]? = some (some (g, x)) → Tz x) → ∀ (j : Nat) g x, B[j]? = some (some (g, x)) → Tz x := by
    intro A B j' z hz ok hA j g x hx
    cases z with
    | none => cases hz; exact hA j g x hx
    | some z =>
      have hz : noteS A j' z = some B := hz
      unfold noteS at hz
      split at hz
      · cases hz
      · cases hz
        rw [List.getElem?_set] at hx
        split at hx
        · split at hx
          · cases hx; exact ok _ rfl
          · cases hx
        · exact hA j g x hx
      · split at hz
        · cases hz; exact hA j g x hx
        · cases hz
  refine note_all h2 ho.2 (note_all h1 ho.1 ?_)
  intro j g x hx
  rw [List.getElem?_set] at hx
  split at hx
  · split at hx
    · cases hx; exact hL _ _ _ hk
    · cases hx
  · exact hL j g x hx
end Go.Proofs.YtnmcehpdiopaiaaGreatDoor.Cd
