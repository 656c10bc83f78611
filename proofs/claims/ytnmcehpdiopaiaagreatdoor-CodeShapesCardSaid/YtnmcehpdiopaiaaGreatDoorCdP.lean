/- Plain: where all places are gone through, shapes go with one another; what is never come to does not matter. -/
import Derived.Test.YtnmcehpdiopaiaaGreatDoorCdE
namespace Go.Proofs.YtnmcehpdiopaiaaGreatDoor.Cd
open Go.RowKit Ty
set_option linter.unusedSimpArgs false
set_option linter.unusedVariables false

/-- What is there stays. -/
structure Mn (L L' : Cs) : Prop where
  len : L'.length = L.length
  at' : ∀ (k : Nat) g x, L[k]? = some (some (g, x)) → ∃ g', L'[k]? = some (some (g', x))
theorem Mn.refl (L : Cs) : Mn L L := ⟨rfl, fun k g x h => ⟨g, h⟩⟩
theorem Mn.trans {a b c : Cs} (h : Mn a b) (g : Mn b c) : Mn a c := ⟨by rw [g.len, h.len], fun k q x hx => by
  obtain ⟨q', h'⟩ := h.at' k q x hx
  exact g.at' k q' x h'⟩
theorem Mn.gone {L : Cs} {k : Nat} {s : Sp} (h : L[k]? = some (some (false, s))) : Mn L (L.set k (some (true, s))) := by
  refine ⟨by simp, fun j g x hx => ?_⟩
  rw [List.getElem?_set]
  by_cases e : k = j
  · subst e
    rw [h] at hx
    cases hx
    have hk : k < L.length := (List.getElem?_eq_some_iff.1 h).1
    exact ⟨true, by simp [hk]⟩
  · exact ⟨g, by simp [e, hx]⟩
theorem Mn.note {L L' : Cs} {k : Nat} {s : Sp} (h : noteS L k s = some L') : Mn L L' ∧ ∃ g, L'[k]? = some (some (g, s)) := by
  unfold noteS at h
  split at h
  · cases h
  · rename_i h0
    cases h
    have hk : k < L.length := (List.getElem?_eq_some_iff.1 h0).1
    refine ⟨⟨by simp, fun j g x hx => ?_⟩, ⟨false, by simp [hk]⟩⟩
    rw [List.getElem?_set]
    by_cases e : k = j
    · subst e
      rw [h0] at hx
      cases hx
    · exact ⟨g, by simp [e, hx]⟩
  · rename_i g s' h0
    split at h
    · rename_i e
      cases h
      subst e
      exact ⟨Mn.refl _, g, h0⟩
    · cases h
theorem Mn.noteO {L L' : Cs} {k : Nat} {a : Option Sp} (h : noteO L k a = some L') : Mn L L' ∧ ∀ x, a = some x → ∃ g, L'[k]? = some (some (g, x)) := by
  cases a with
  | none => cases h; exact ⟨Mn.refl _, fun x hx => by cases hx⟩
  | some s =>
    have := Mn.note (show noteS L k s = some L' from h)
    exact ⟨this.1, fun x hx => by cases hx; exact this.2⟩
/-- A place whose shape goes with those behind it. -/
def Fits (f : Fu) (p : Fm) (L : Cs) (k : Nat) (s : Sp) : Prop :=
  ∃ a b, stepS f p (f.cd.getD k default) s = some (a, b) ∧ (∀ x, a = some x → over x = false ∧ ∃ g, L[k + 1]? = some (some (g, x))) ∧
    (∀ x, b = some x → over x = false ∧ (f.cd.getD k default).n < f.cd.length ∧ ∃ g, L[(f.cd.getD k default).n.toNat]? = some (some (g, x)))
theorem Fits.mono {f : Fu} {p : Fm} {L L' : Cs} {k : Nat} {s : Sp} (h : Fits f p L k s) (m : Mn L L') : Fits f p L' k s := by
  obtain ⟨a, b, h1, h2, h3⟩ := h
  refine ⟨a, b, h1, fun x hx => ?_, fun x hx => ?_⟩
  · obtain ⟨o, g, hg⟩ := h2 x hx
    exact ⟨o, m.at' _ _ _ hg⟩
  · obtain ⟨o, n, g, hg⟩ := h3 x hx
    exact ⟨o, n, m.at' _ _ _ hg⟩
theorem round_fits {f : Fu} {p : Fm} {L L' : Cs} {k : Nat} {s : Sp} (hl : L[k]? = some (some (false, s))) (h : roundS f p L k s = .ok L') : Mn L L' ∧ Fits f p L' k s ∧ (∀ (j : Nat) x, L'[j]? = some (some (true, x)) → (j = k ∧ x = s) ∨ L[j]? = some (some (true, x))) := by
  unfold roundS at h
  split at h
  · cases h
  rename_i a b hs
  split at h
  · cases h
  rename_i c1
  split at h
  · cases h
  rename_i c2
  split at h
  · cases h
  rename_i L1 h1
  split at h
  · cases h
  rename_i L2 h2
  cases h
  have m0 := Mn.gone hl
  obtain ⟨m1, g1⟩ := Mn.noteO h1
  obtain ⟨m2, g2⟩ := Mn.noteO h2
  simp only [Bool.or_eq_true, not_or, Bool.not_eq_true] at c1 c2
  refine ⟨(m0.trans m1).trans m2, ⟨a, b, hs, fun x hx => ?_, fun x hx => ?_⟩, ?_⟩
  · subst hx
    obtain ⟨g, hg⟩ := g1 x rfl
    exact ⟨c2.1, m2.at' _ _ _ hg⟩
  · subst hx
    obtain ⟨g, hg⟩ := g2 x rfl
    have := c1.2
    simp at this
    exact ⟨c2.2, by simpa using this, g, hg⟩
  · have note_back : ∀ {A B : Cs} {j' : Nat} {z : Option Sp}, noteO A j' z = some B → ∀ (j : Nat) x, B[j]? = some (some (true, x)) → A[j]? = some (some (true, x)) := by
      intro A B j' z hz j x hx
      cases z with
      | none => cases hz; exact hx
      | some z =>
        have hz : noteS A j' z = some B := hz
        unfold noteS at hz
        split at hz
        · cases hz
        · cases hz
          rw [List.getElem?_set] at hx
          split at hx
          · split at hx
            · cases hx
            · cases hx
          · exact hx
        · split at hz
          · cases hz; exact hx
          · cases hz
    intro j x hx
    have := note_back h1 j x (note_back h2 j x hx)
    rw [List.getElem?_set] at this
    split at this
    · rename_i e
      split at this
      · cases this; exact Or.inl ⟨e.symm, rfl⟩
      · cases this
    · exact Or.inr this
theorem goS_fits {f : Fu} {p : Fm} {R : Cs} : ∀ {j : Nat} {L : Cs}, goS f p j L = some (.ok R) → (∀ (k : Nat) s, L[k]? = some (some (true, s)) → Fits f p L k s) → Mn L R ∧ ∀ (k : Nat) g s, R[k]? = some (some (g, s)) → Fits f p R k s
  | 0, L, h, _ => by cases h
  | j + 1, L, h, hL => by
    unfold goS at h
    cases e : leastS L with
    | none =>
      rw [e] at h
      cases h
      refine ⟨Mn.refl _, fun k g s hk => ?_⟩
      cases g with
      | true => exact hL k s hk
      | false => exact absurd hk (leastS_no e k s)
    | some x =>
      obtain ⟨k, s⟩ := x
      rw [e] at h
      simp only [] at h
      cases e2 : roundS f p L k s with
      | error e => rw [e2] at h; cases h
      | ok L' =>
        rw [e2] at h
        obtain ⟨m, fk, back⟩ := round_fits (leastS_at e).1 e2
        have := goS_fits (j := j) (L := L') h (fun k' s' hk' => by
          rcases back k' s' hk' with ⟨rfl, rfl⟩ | hb
          · exact fk
          · exact (hL k' s' hb).mono m)
        exact ⟨m.trans this.1, this.2⟩
theorem goS_mn {f : Fu} {p : Fm} {R : Cs} : ∀ {j : Nat} {L : Cs}, goS f p j L = some (.ok R) → Mn L R
  | 0, L, h => by cases h
  | j + 1, L, h => by
    unfold goS at h
    cases e : leastS L with
    | none => rw [e] at h; cases h; exact Mn.refl _
    | some x =>
      obtain ⟨k, s⟩ := x
      rw [e] at h
      simp only [] at h
      cases e2 : roundS f p L k s with
      | error e => rw [e2] at h; cases h
      | ok L' =>
        rw [e2] at h
        exact (round_fits (leastS_at e).1 e2).1.trans (goS_mn (j := j) h)
/-- What is never come to does not matter. -/
theorem goS_dead {f f' : Fu} {p : Fm} {R : Cs} {d : Nat} (hd : R[d]? = some none) (h1 : f'.sg = f.sg) (h2 : f'.loc = f.loc) (h3 : f'.cd.length = f.cd.length) (h4 : ∀ k, k ≠ d → f'.cd.getD k default = f.cd.getD k default) :
    ∀ {j : Nat} {L : Cs}, goS f p j L = some (.ok R) → goS f' p j L = some (.ok R)
  | 0, L, h => by cases h
  | j + 1, L, h => by
    have hm := goS_mn h
    unfold goS at h ⊢
    cases e : leastS L with
    | none => rw [e] at h; exact h
    | some x =>
      obtain ⟨k, s⟩ := x
      rw [e] at h
      simp only [] at h ⊢
      have hk : k ≠ d := by
        rintro rfl
        obtain ⟨g, hg⟩ := hm.at' _ _ _ (leastS_at e).1
        rw [hd] at hg
        cases hg
      have er : roundS f' p L k s = roundS f p L k s := by
        unfold roundS
        rw [h4 k hk, h3]
        have : ∀ i, stepS f' p i s = stepS f p i s := fun i => by unfold stepS; rw [h1, h2]
        rw [this]
      rw [er]
      cases e2 : roundS f p L k s with
      | error e => rw [e2] at h; cases h
      | ok L' =>
        rw [e2] at h
        exact goS_dead hd h1 h2 h3 h4 (j := j) h
/-- All shapes that are found are such as may be. -/
theorem goS_ok {f : Fu} {p : Fm} (hf : OkF f p) (hi : ∀ k : Nat, k < f.cd.length → OkI (f.cd.getD k default)) : ∀ {L L' : Cs} {k : Nat} {s : Sp}, L.length = f.cd.length → (∀ (j : Nat) g x, L[j]? = some (some (g, x)) → OkS x) → L[k]? = some (some (false, s)) → roundS f p L k s = .ok L' → ∀ (j : Nat) g x, L'[j]? = some (some (g, x)) → OkS x := by
  intro L L' k s hn hL hk h
  have hlt : k < f.cd.length := by rw [← hn]; exact (List.getElem?_eq_some_iff.1 hk).1
  unfold roundS at h
  split at h
  · cases h
  rename_i a b hs
  have ho := step_ok hf (hi k hlt) (hL _ _ _ hk) hs
  split at h
  · cases h
  split at h
  · cases h
  split at h
  · cases h
  rename_i L1 h1
  split at h
  · cases h
  rename_i L2 h2
  cases h
  have note_all : ∀ {A B : Cs} {j' : Nat} {z : Option Sp}, noteO A j' z = some B → (∀ x, z = some x → OkS x) → (∀ (j : Nat) g x, A[j]? = some (some (g, x)) → OkS x) → ∀ (j : Nat) g x, B[j]? = some (some (g, x)) → OkS x := by
    intro A B j' z hz ok hA j g x hx
    cases z with
    | none => cases hz; exact hA j g x hx
    | some z =>
      have hz : noteS A j' z = some B := hz
      unfold noteS at hz
      split at hz
      · cases hz
      · cases hz
        rw [List.getElem?_set] at hx
        split at hx
        · split at hx
          · cases hx; exact ok _ rfl
          · cases hx
        · exact hA j g x hx
      · split at hz
        · cases hz; exact hA j g x hx
        · cases hz
  refine note_all h2 ho.2 (note_all h1 ho.1 ?_)
  intro j g x hx
  rw [List.getElem?_set] at hx
  split at hx
  · split at hx
    · cases hx; exact hL _ _ _ hk
    · cases hx
  · exact hL j g x hx
end Go.Proofs.YtnmcehpdiopaiaaGreatDoor.Cd
