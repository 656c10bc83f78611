/- Orders and levels, in plain words, as the document makes them. -/
import Derived.Test.YtajefmmggefbeaaDgE
namespace Go.Proofs.Ytajefmmggefbeaa.Dg
set_option linter.unusedSimpArgs false
set_option linter.unusedVariables false

theorem orderGo_same {g : Gr} : ∀ (n : Nat) (left p q : List Str), (∀ x, x ∈ p ↔ x ∈ q) → orderGo g n left p = orderGo g n left q
  | 0, left, p, q, h => rfl
  | n + 1, left, p, q, h => by
    unfold orderGo
    rw [okIn_same h]
    split
    · rfl
    · cases left.findIdx? (okIn g q) with
      | none => rfl
      | some i =>
        show (orderGo g n (left.eraseIdx i) (left[i]! :: p)).map _ = (orderGo g n (left.eraseIdx i) (left[i]! :: q)).map _
        rw [orderGo_same n _ (left[i]! :: p) (left[i]! :: q) (fun x => by simp [h x])]
/-- The first of those that are left. -/
theorem find_idx {f : Str → Bool} : ∀ {l : List Str} {x : Str}, l.Nodup → l.find? f = some x → ∃ i, l.findIdx? f = some i ∧ l[i]? = some x ∧ l.eraseIdx i = l.filter fun y => decide (y ≠ x)
  | y :: l, x, hn, h => by
    obtain ⟨h1, h2⟩ := List.nodup_cons.1 hn
    rw [List.find?_cons] at h
    cases hy : f y
    · rw [hy] at h
      obtain ⟨i, k1, k2, k3⟩ := find_idx h2 h
      have hne : y ≠ x := fun e => h1 (e ▸ List.mem_of_getElem? k2)
      refine ⟨i + 1, ?_, by simpa using k2, ?_⟩
      · rw [List.findIdx?_cons, hy, k1]; rfl
      · rw [List.eraseIdx_cons_succ, k3, List.filter_cons, if_pos (by simpa using hne)]
    · rw [hy] at h
      obtain rfl := Option.some.inj h
      refine ⟨0, ?_, rfl, ?_⟩
      · rw [List.findIdx?_cons, hy]; rfl
      · rw [List.eraseIdx_cons_zero, List.filter_cons, if_neg (by simp)]
        symm
        rw [List.filter_eq_self]
        intro z hz
        have : z ≠ y := fun e => h1 (e ▸ hz)
        simpa using this
/-- What is left. -/
def leftS (g : Gr) (out : List Str) : List Str := g.ks.filter fun x => decide (x ∉ out)
theorem mem_left {g : Gr} {out : List Str} {x : Str} : x ∈ leftS g out ↔ x ∈ g.ks ∧ x ∉ out := by simp [leftS]
theorem left_nodup {g : Gr} (hg : g.WF) (out : List Str) : (leftS g out).Nodup := (nodup_of_ss hg.ks).filter _
theorem left_snoc (g : Gr) (out : List Str) (x : Str) : (leftS g out).filter (fun y => decide (y ≠ x)) = leftS g (out ++ [x]) := by
  unfold leftS
  rw [List.filter_filter]
  apply List.filter_congr
  intro y _
  simp only [List.mem_append, List.mem_singleton, not_or, ne_eq, Bool.decide_and]
  rw [Bool.and_comm]
/-- Where the document's order stands: those that are out, and how it goes on. -/
def OrdAt (g : Gr) (out R : List Str) : Prop := ∃ n, (leftS g out).length ≤ n ∧ (orderGo g n (leftS g out) out).map (out ++ ·) = some R
theorem OrdAt.start {g : Gr} {R : List Str} (h : orderS g = some R) : OrdAt g [] R := by
  refine ⟨g.ks.length, by unfold leftS; exact List.length_filter_le _ _, ?_⟩
  have : leftS g [] = g.ks := by unfold leftS; rw [List.filter_eq_self]; simp
  rw [this]
  unfold orderS at h
  rw [h]
  simp
theorem OrdAt.end {g : Gr} {out R : List Str} (h : OrdAt g out R) (he : leftS g out = []) : out = R := by
  obtain ⟨n, _, h⟩ := h
  rw [he] at h
  cases n <;> simpa [orderGo] using h
theorem OrdAt.step {g : Gr} (hg : g.WF) {out R : List Str} (h : OrdAt g out R) {x : Str} (hx : (leftS g out).find? (okIn g out) = some x) : OrdAt g (out ++ [x]) R := by
  obtain ⟨n, hn, h⟩ := h
  obtain ⟨i, k1, k2, k3⟩ := find_idx (left_nodup hg out) hx
  have hmem := List.mem_of_getElem? k2
  have hpos : 0 < (leftS g out).length := List.length_pos_of_mem hmem
  cases n with
  | zero => omega
  | succ n =>
    rw [left_snoc] at k3
    have hi := (List.getElem?_eq_some_iff.1 k2).1
    have hgi : (leftS g out)[i]! = x := by
      rw [getElem!_pos (leftS g out) i hi]; exact (List.getElem?_eq_some_iff.1 k2).2
    unfold orderGo at h
    rw [if_neg (fun e => by rw [e] at hmem; cases hmem), k1] at h
    simp only [hgi, k3] at h
    refine ⟨n, ?_, ?_⟩
    · rw [← k3, List.length_eraseIdx_of_lt hi]; omega
    · rw [orderGo_same n _ (out ++ [x]) (x :: out) (fun y => by simp [or_comm])]
      rw [Option.map_map] at h
      rw [← h]
      congr 1
      funext r
      simp
/-- The first node that can stand next, by its number. -/
theorem next_find {g : Gr} {out : List Str} : ∀ {l : List Str} {k : Nat} {x : Str}, l[k]? = some x → (x ∉ out ∧ okIn g out x = true) → (∀ i y, i < k → l[i]? = some y → ¬ (y ∉ out ∧ okIn g out y = true)) → (l.filter fun x => decide (x ∉ out)).find? (okIn g out) = some x
  | [], k, x, h, _, _ => by simp at h
  | y :: l, 0, x, h, hx, _ => by
    obtain rfl : y = x := by simpa using h
    rw [List.filter_cons, if_pos (by simpa using hx.1), List.find?_cons, hx.2]
  | y :: l, k + 1, x, h, hx, hb => by
    have h0 := hb 0 y (by omega) rfl
    have ih := next_find (l := l) (k := k) (x := x) (by simpa using h) hx (fun i z hi hz => hb (i + 1) z (by omega) (by simpa using hz))
    rw [List.filter_cons]
    by_cases hy : y ∈ out
    · rw [if_neg (by simpa using hy)]; exact ih
    · rw [if_pos (by simpa using hy), List.find?_cons]
      cases hoy : okIn g out y
      · exact ih
      · exact absurd ⟨hy, hoy⟩ h0
theorem Calm.there_next {g : Gr} (hc : Calm g) {out : List Str} (hne : leftS g out ≠ []) : ∃ (k : Nat) (x : Str), g.ks[k]? = some x ∧ x ∉ out ∧ okIn g out x = true := by
  obtain ⟨x, h1, h2⟩ := hc.next (left := leftS g out) (placed := out) (fun x h => (mem_left.1 h).1) (fun x h => by
    by_cases hx : x ∈ out
    · exact Or.inr hx
    · exact Or.inl (mem_left.2 ⟨h, hx⟩)) hne
  obtain ⟨h3, h4⟩ := mem_left.1 h1
  obtain ⟨k, hk⟩ := List.getElem?_of_mem h3
  exact ⟨k, x, hk, h4, h2⟩
theorem left_lt {g : Gr} {out : List Str} (hn : out.Nodup) (hsub : ∀ x ∈ out, x ∈ g.ks) (hg : g.WF) : (leftS g out).length + out.length = g.ks.length := by
  have hp : g.ks.Perm (leftS g out ++ out) := (List.perm_ext_iff_of_nodup (nodup_of_ss hg.ks) (by
    rw [List.nodup_append]
    refine ⟨left_nodup hg out, hn, fun a ha b hb e => ?_⟩
    subst e
    exact (mem_left.1 ha).2 hb)).2 (fun x => by
      rw [List.mem_append, mem_left]
      constructor
      · intro h
        by_cases hx : x ∈ out
        · exact Or.inr hx
        · exact Or.inl ⟨h, hx⟩
      · rintro (h | h)
        · exact h.1
        · exact hsub x h)
  have := hp.length_eq
  rw [List.length_append] at this
  omega

theorem levelsGo_same {g : Gr} : ∀ (n : Nat) (left p q : List Str), (∀ x, x ∈ p ↔ x ∈ q) → levelsGo g n left p = levelsGo g n left q
  | 0, left, p, q, h => rfl
  | n + 1, left, p, q, h => by
    unfold levelsGo
    rw [okIn_same h, levelsGo_same n _ (p ++ left.filter (okIn g q)) (q ++ left.filter (okIn g q)) (fun x => by simp [h x])]
/-- The next level. -/
def nextS (g : Gr) (done : List Str) : List Str := g.ks.filter fun x => decide (x ∉ done) && okIn g done x
theorem next_is (g : Gr) (done : List Str) : (leftS g done).filter (okIn g done) = nextS g done := by
  unfold leftS nextS
  rw [List.filter_filter]
  apply List.filter_congr
  intro x _
  rw [Bool.and_comm]
theorem left_next (g : Gr) (done : List Str) : (leftS g done).filter (fun x => !okIn g done x) = leftS g (done ++ nextS g done) := by
  unfold leftS
  rw [List.filter_filter]
  apply List.filter_congr
  intro x hx
  by_cases h1 : x ∈ done
  · simp [h1]
  · cases h2 : okIn g done x
    · have : x ∉ nextS g done := fun h => by have := (List.mem_filter.1 h).2; rw [h2] at this; simp at this
      simp [h1, this]
    · have : x ∈ nextS g done := List.mem_filter.2 ⟨hx, by simp [h1, h2]⟩
      simp [h1, this]
def LevAt (g : Gr) (ls : List (List Str)) (done : List Str) (R : List (List Str)) : Prop := ∃ n, (leftS g done).length ≤ n ∧ (levelsGo g n (leftS g done) done).map (ls ++ ·) = some R
theorem LevAt.start {g : Gr} {R : List (List Str)} (h : levelsS g = some R) : LevAt g [] [] R := by
  refine ⟨g.ks.length, by unfold leftS; exact List.length_filter_le _ _, ?_⟩
  have : leftS g [] = g.ks := by unfold leftS; rw [List.filter_eq_self]; simp
  rw [this]
  unfold levelsS at h
  rw [h]
  simp
theorem LevAt.end {g : Gr} {ls : List (List Str)} {done : List Str} {R : List (List Str)} (h : LevAt g ls done R) (he : leftS g done = []) : ls = R := by
  obtain ⟨n, _, h⟩ := h
  rw [he] at h
  cases n <;> simpa [levelsGo] using h
theorem LevAt.step {g : Gr} {ls : List (List Str)} {done : List Str} {R : List (List Str)} (h : LevAt g ls done R) (hne : leftS g done ≠ []) (hc : Calm g) : LevAt g (ls ++ [nextS g done]) (done ++ nextS g done) R := by
  obtain ⟨n, hn, h⟩ := h
  have hpos : 0 < (leftS g done).length := List.length_pos_iff.2 hne
  cases n with
  | zero => omega
  | succ n =>
    unfold levelsGo at h
    rw [if_neg hne, next_is, left_next, Option.map_map] at h
    refine ⟨n, ?_, ?_⟩
    · have h2 : (leftS g (done ++ nextS g done)).length + (nextS g done).length = (leftS g done).length := by
        rw [← left_next, ← next_is]
        have key : ∀ (p : Str → Bool) (l : List Str), (l.filter fun x => !p x).length + (l.filter p).length = l.length := by
          intro p l
          induction l with
          | nil => rfl
          | cons y l ih => rw [List.filter_cons, List.filter_cons]; cases p y <;> simp <;> omega
        exact key _ _
      obtain ⟨k, x, q1, q2, q3⟩ := hc.there_next hne
      have : 0 < (nextS g done).length := List.length_pos_of_mem (List.mem_filter.2 ⟨List.mem_of_getElem? q1, by simp [q2, q3]⟩)
      omega
    · rw [← h]
      congr 1
      funext r
      simp
end Go.Proofs.Ytajefmmggefbeaa.Dg
