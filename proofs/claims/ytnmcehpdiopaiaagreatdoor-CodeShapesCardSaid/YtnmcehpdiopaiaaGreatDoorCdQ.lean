/- Plain: a place gone through, by the ways that lead on from it. Marks of a walk. -/
import Derived.Test.YtnmcehpdiopaiaaGreatDoorCdX
namespace Go.Proofs.YtnmcehpdiopaiaaGreatDoor.Cd
open Go.RowKit Ty
set_option linter.unusedSimpArgs false
set_option linter.unusedVariables false

/-- Where an instruction leads, or its error. -/
def wayS (f : Fu) (p : Fm) (k : Nat) (s : Sp) : Int × List (Nat × Sp) :=
  match stepS f p (f.cd.getD k default) s with
  | none => (51, [])
  | some (a, b) =>
    if (a.isSome && decide (f.cd.length ≤ k + 1)) || (b.isSome && decide ((f.cd.length : Int) ≤ (f.cd.getD k default).n)) then (51, [])
    else if anyO a || anyO b then (3, [])
    else (0, (match a with | none => [] | some x => [(k + 1, x)]) ++ (match b with | none => [] | some x => [((f.cd.getD k default).n.toNat, x)]))
def notesS (L : Cs) : List (Nat × Sp) → Option Cs
  | [] => some L
  | (j, s) :: r => match noteS L j s with
    | none => none
    | some L' => notesS L' r
def roundE : Option Cs → Except Int Cs
  | none => .error 22
  | some L => .ok L
def nextR (f : Fu) (p : Fm) (j k : Nat) : Except Int Cs → Option Rs
  | .error e => some (.er k e)
  | .ok L' => goS f p j L'
theorem goS_next {f : Fu} {p : Fm} {j k : Nat} {s : Sp} {L : Cs} (h : leastS L = some (k, s)) : goS f p (j + 1) L = nextR f p j k (roundS f p L k s) := by
  rw [goS, h]
  simp only []
  unfold nextR
  rfl
theorem roundS_way (f : Fu) (p : Fm) (L : Cs) (k : Nat) (s : Sp) : roundS f p L k s = if (wayS f p k s).1 ≠ 0 then .error (wayS f p k s).1 else roundE (notesS (L.set k (some (true, s))) (wayS f p k s).2) := by
  unfold roundS wayS roundE
  cases stepS f p (f.cd.getD k default) s with
  | none => rfl
  | some x =>
    obtain ⟨a, b⟩ := x
    simp only []
    split
    · rfl
    split
    · rfl
    cases a with
    | none =>
      cases b with
      | none => simp [noteO, notesS]
      | some y =>
        simp only [noteO, notesS, List.nil_append, ne_eq, not_true_eq_false, if_false]
        cases noteS (List.set L k (some (true, s))) (f.cd.getD k default).n.toNat y with
        | none => rfl
        | some L' => rfl
    | some x =>
      simp only [noteO, ne_eq, not_true_eq_false, if_false]
      cases b with
      | none =>
        simp only [notesS, List.append_nil]
        cases noteS (List.set L k (some (true, s))) (k + 1) x with
        | none => rfl
        | some L' => rfl
      | some y =>
        simp only [notesS, List.cons_append, List.nil_append]
        cases noteS (List.set L k (some (true, s))) (k + 1) x with
        | none => rfl
        | some L' =>
          simp only [noteO]
          cases noteS L' (f.cd.getD k default).n.toNat y with
          | none => rfl
          | some L2 => rfl
/-- No shape that is noted is more than there may be. -/
theorem round_over {f : Fu} {p : Fm} {L L' : Cs} {k : Nat} {s : Sp} (hL : ∀ (j : Nat) g x, L[j]? = some (some (g, x)) → over x = false) (hk : L[k]? = some (some (false, s))) (h : roundS f p L k s = .ok L') : ∀ (j : Nat) g x, L'[j]? = some (some (g, x)) → over x = false := by
  unfold roundS at h
  split at h
  · cases h
  rename_i a b hs
  split at h
  · cases h
  split at h
  · cases h
  rename_i c2
  split at h
  · cases h
  rename_i L1 h1
  split at h
  · cases h
  rename_i L2 h2
  cases h
  simp only [Bool.or_eq_true, not_or, Bool.not_eq_true] at c2
  have note_all : ∀ {A B : Cs} {j' : Nat} {z : Option Sp}, noteO A j' z = some B → anyO z = false → (∀ (j : Nat) g x, A[j]? = some (some (g, x)) → over x = false) → ∀ (j : Nat) g x, B[j]? = some (some (g, x)) → over x = false := by
    intro A B j' z hz ok hA j g x hx
    cases z with
    | none => cases hz; exact hA j g x hx
    | some z =>
      have hz : noteS A j' z = some B := hz
      unfold noteS at hz
      split at hz
      · cases hz
      · cases hz
        rw [List.getElem?_set] at hx
        split at hx
        · split at hx
          · cases hx; exact ok
          · cases hx
        · exact hA j g x hx
      · split at hz
        · cases hz; exact hA j g x hx
        · cases hz
  refine note_all h2 c2.2 (note_all h1 c2.1 ?_)
  intro j g x hx
  rw [List.getElem?_set] at hx
  split at hx
  · split at hx
    · cases hx; exact hL _ _ _ hk
    · cases hx
  · exact hL j g x hx
theorem ahC_same : ∀ (L : Cs) (k : Nat) (c d : Option (Bool × Sp)), L[k]? = some c → shO d = shO c → ahC (L.set k d) = ahC L
  | [], k, c, d, h, _ => by simp at h
  | x :: r, 0, c, d, h, e => by
    simp at h
    subst h
    show shC (shO d) ++ ahC r = shC (shO x) ++ ahC r
    rw [e]
  | x :: r, k + 1, c, d, h, e => by
    show shC (shO x) ++ ahC (r.set k d) = shC (shO x) ++ ahC r
    rw [ahC_same r k c d (by simpa using h) e]
theorem stC_put (L : Cs) (k : Nat) (d : Option (Bool × Sp)) : (stC L).toArray.setIfInBounds k (.int .u8 (stN d)) = (stC (L.set k d)).toArray := by
  simp [stC, List.map_set]
theorem Wk.mark {w : World} {q gs ga n : Nat} {v0 v1 v2 v3 v4 v5 : Value} {L : Cs} (h : Wk w q gs ga n v0 v1 v2 v3 v4 v5 L) {k : Nat} {c d : Option (Bool × Sp)} (hk : L[k]? = some c) (e : shO d = shO c) :
    Wk (w.setCell ⟨gs, k, none⟩ (.int .u8 (stN d))) q gs ga n v0 v1 v2 v3 v4 v5 (L.set k d) := by
  have f0 := Fr.setCell w ⟨gs, k, none⟩ (.int .u8 (stN d))
  have h0 := heap_setCell_same w gs k _ 5 (.int .u8 (stN d)) h.st
  refine ⟨f0.heap h.box h.qs, ?_, ?_, by rw [List.length_set]; exact h.len, h.qs, h.qa, h.sa⟩
  · rw [← stC_put]; exact h0
  · rw [ahC_same L k c d hk e]; exact f0.heap h.ah (fun e => h.sa e.symm)
theorem note_any (q gs ga n k : Nat) (v0 v1 v2 v3 v4 v5 : Value) (L : Cs) (s : Sp) (w : World) (h : Wk w q gs ga n v0 v1 v2 v3 v4 v5 L) (hk : k < n) (hok : ∀ (j : Nat) g x, L[j]? = some (some (g, x)) → OkS x) (ho : OkS s) (hn : n ≤ 1000000) :
    Calls Tryz.prog 39 #[.pointer (some ⟨q, 0, none⟩), .agg #[ci (k : Int), ct (encSt s.st), ct (encTr s.tr), ci (s.tr.length : Int)]] w fun e w' => e = .returned (.bool (noteS L k s).isSome) ∧ Fr (fun b => b = gs ∨ b = ga) w w' ∧ ∀ L2, noteS L k s = some L2 → Wk w' q gs ga n v0 v1 v2 v3 v4 v5 L2 := by
  obtain ⟨c, hc⟩ : ∃ c, L[k]? = some c := ⟨_, List.getElem?_eq_getElem (by rw [h.len]; exact hk)⟩
  cases c with
  | none =>
    have e : noteS L k s = some (L.set k (some (false, s))) := by unfold noteS; rw [hc]
    rw [e]
    exact (note_new q gs ga n k v0 v1 v2 v3 v4 v5 L s w h hc hn).mono (fun e w' g => ⟨g.1, g.2.2, fun L2 e2 => by cases e2; exact g.2.1⟩)
  | some z =>
    obtain ⟨g, s'⟩ := z
    have e : noteS L k s = if s' = s then some L else none := by unfold noteS; rw [hc]
    rw [e]
    have kn := note_old q gs ga n k v0 v1 v2 v3 v4 v5 L s s' g w h hc ho (hok _ _ _ hc) hn
    by_cases e1 : s' = s
    · rw [if_pos e1]
      rw [decide_eq_true e1] at kn
      exact kn.mono (fun e w' g => ⟨g.1, g.2.mono (fun _ _ f => f.elim), fun L2 e2 => by cases e2; exact h.keepN g.2⟩)
    · rw [if_neg e1]
      rw [decide_eq_false e1] at kn
      exact kn.mono (fun e w' g => ⟨g.1, g.2.mono (fun _ _ f => f.elim), fun L2 e2 => by cases e2⟩)
theorem note_oks {L L2 : Cs} {k : Nat} {s : Sp} (h : noteS L k s = some L2) (hok : ∀ (j : Nat) g x, L[j]? = some (some (g, x)) → OkS x) (ho : OkS s) : ∀ (j : Nat) g x, L2[j]? = some (some (g, x)) → OkS x := by
  intro j g x hx
  unfold noteS at h
  split at h
  · cases h
  · cases h
    rw [List.getElem?_set] at hx
    split at hx
    · split at hx
      · cases hx; exact ho
      · cases hx
    · exact hok j g x hx
  · split at h
    · cases h; exact hok j g x hx
    · cases h
end Go.Proofs.YtnmcehpdiopaiaaGreatDoor.Cd
