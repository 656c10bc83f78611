/- Orders and levels, in plain words. -/
import Derived.Test.YtajefmmggefbeaaDgR
namespace Go.Proofs.Ytajefmmggefbeaa.Dg
set_option linter.unusedSimpArgs false
set_option linter.unusedVariables false

/-- Each stands behind all that it imports. -/
def Topo (g : Gr) (placed l : List Str) : Prop := ∀ (i : Nat) (x : Str), l[i]? = some x → ∀ y ∈ g.im x, y ∈ placed ∨ y ∈ l.take i
theorem findIdx_some {p : Str → Bool} {l : List Str} (h : ∃ x ∈ l, p x = true) : ∃ i x, l.findIdx? p = some i ∧ l[i]? = some x ∧ p x = true := by
  cases hf : l.findIdx? p with
  | none =>
    obtain ⟨x, hx, hp⟩ := h
    have := List.findIdx?_eq_none_iff.1 hf x hx
    rw [hp] at this; cases this
  | some i =>
    obtain ⟨hi, hp, _⟩ := List.findIdx?_eq_some_iff_getElem.1 hf
    exact ⟨i, l[i], rfl, List.getElem?_eq_getElem hi, hp⟩
theorem mem_eraseIdx_or {l : List Str} {i : Nat} {x y : Str} (hi : l[i]? = some x) (hy : y ∈ l) : y = x ∨ y ∈ l.eraseIdx i := by
  induction l generalizing i with
  | nil => cases hy
  | cons a r ih =>
    cases i with
    | zero =>
      simp at hi; subst hi
      rcases List.mem_cons.1 hy with k | k
      · exact Or.inl k
      · exact Or.inr (by simpa using k)
    | succ i =>
      rcases List.mem_cons.1 hy with k | k
      · subst k; exact Or.inr (by simp)
      · rcases ih (by simpa using hi) k with q | q
        · exact Or.inl q
        · exact Or.inr (by simp [q])
theorem eraseIdx_perm {l : List Str} {i : Nat} {x : Str} (hi : l[i]? = some x) : l.Perm (x :: l.eraseIdx i) := by
  induction l generalizing i with
  | nil => simp at hi
  | cons a r ih =>
    cases i with
    | zero => simp at hi; subst hi; simp
    | succ i =>
      have := ih (i := i) (by simpa using hi)
      simp only [List.eraseIdx_cons_succ]
      exact (List.Perm.cons a this).trans (List.Perm.swap _ _ _)
theorem orderGo_some {g : Gr} (hc : Calm g) : ∀ (n : Nat) (left placed : List Str), left.length ≤ n → (∀ x ∈ left, x ∈ g.ks) → (∀ x ∈ g.ks, x ∈ left ∨ x ∈ placed) →
    ∃ l, orderGo g n left placed = some l ∧ l.Perm left ∧ Topo g placed l
  | 0, left, placed, hl, _, _ => by
    obtain rfl : left = [] := List.eq_nil_of_length_eq_zero (by omega)
    exact ⟨[], by simp [orderGo], List.Perm.refl _, fun i x h => by simp at h⟩
  | n + 1, left, placed, hl, h1, h2 => by
    by_cases h0 : left = []
    · subst h0
      exact ⟨[], by simp [orderGo], List.Perm.refl _, fun i x h => by simp at h⟩
    · obtain ⟨i, x, hf, hx, hp⟩ := findIdx_some (hc.next h1 h2 h0)
      have hi := (List.getElem?_eq_some_iff.1 hx).1
      have hx! : left[i]! = x := by rw [getElem!_pos left i hi]; exact (List.getElem?_eq_some_iff.1 hx).2
      obtain ⟨l, k1, k2, k3⟩ := orderGo_some hc n (left.eraseIdx i) (x :: placed) (by rw [List.length_eraseIdx_of_lt hi]; omega) (fun y hy => h1 y (List.mem_of_mem_eraseIdx hy)) (fun y hy => by
        rcases h2 y hy with k | k
        · rcases mem_eraseIdx_or hx k with q | q
          · exact Or.inr (by simp [q])
          · exact Or.inl q
        · exact Or.inr (by simp [k]))
      refine ⟨x :: l, by unfold orderGo; rw [if_neg h0, hf]; simp only [hx!, k1, Option.map_some], ?_, ?_⟩
      · exact (List.Perm.cons x k2).trans (eraseIdx_perm hx).symm
      · intro j y hy z hz
        cases j with
        | zero =>
          simp at hy; subst hy
          exact Or.inl (okIn_iff.1 hp z hz)
        | succ j =>
          rcases k3 j y (by simpa using hy) z hz with q | q
          · rcases List.mem_cons.1 q with q | q
            · exact Or.inr (by simp [q])
            · exact Or.inl q
          · exact Or.inr (by simp [q])
theorem Calm.order {g : Gr} (hc : Calm g) : ∃ l, orderS g = some l ∧ l.Perm g.ks ∧ Topo g [] l := orderGo_some hc _ _ _ (Nat.le_refl _) (fun _ h => h) (fun _ h => Or.inl h)

/-- In the level k: all imports stand ahead, and one just ahead. -/
def Lev (g : Gr) (placed left : List Str) (ls : List (List Str)) : Prop :=
  (∀ x, x ∈ left ↔ x ∈ ls.flatten) ∧ ∀ (k : Nat) (l : List Str) (x : Str), ls[k]? = some l → x ∈ l → (∀ y ∈ g.im x, y ∈ placed ∨ y ∈ (ls.take k).flatten) ∧ (0 < k → ∃ y ∈ g.im x, y ∉ placed ∧ y ∉ (ls.take (k - 1)).flatten)
theorem levelsGo_some {g : Gr} (hc : Calm g) : ∀ (n : Nat) (left placed : List Str), left.length ≤ n → (∀ x ∈ left, x ∈ g.ks) → (∀ x ∈ g.ks, x ∈ left ∨ x ∈ placed) →
    ∃ ls, levelsGo g n left placed = some ls ∧ Lev g placed left ls ∧ ls.flatten.length = left.length
  | 0, left, placed, hl, _, _ => by
    obtain rfl : left = [] := List.eq_nil_of_length_eq_zero (by omega)
    exact ⟨[], by simp [levelsGo], ⟨by simp, fun k l x h => by simp at h⟩, rfl⟩
  | n + 1, left, placed, hl, h1, h2 => by
    by_cases h0 : left = []
    · subst h0
      exact ⟨[], by simp [levelsGo], ⟨by simp, fun k l x h => by simp at h⟩, rfl⟩
    · obtain ⟨x0, hx0, hp0⟩ := hc.next h1 h2 h0
      have hlen : (left.filter (okIn g placed)).length + (left.filter fun x => !okIn g placed x).length = left.length := by
        clear hl h1 h2 h0 hx0
        induction left with
        | nil => rfl
        | cons a r ih =>
          rw [List.filter_cons, List.filter_cons]
          cases h : okIn g placed a
          · simp; omega
          · simp; omega
      have hpos : 0 < (left.filter (okIn g placed)).length := List.length_pos_of_mem (List.mem_filter.2 ⟨hx0, hp0⟩)
      obtain ⟨ls, k1, ⟨k2, k3⟩, k4⟩ := levelsGo_some hc n (left.filter fun x => !okIn g placed x) (placed ++ left.filter (okIn g placed)) (by omega) (fun y hy => h1 y (List.mem_filter.1 hy).1) (fun y hy => by
        rcases h2 y hy with k | k
        · cases hk : okIn g placed y
          · exact Or.inl (List.mem_filter.2 ⟨k, by simp [hk]⟩)
          · exact Or.inr (List.mem_append_right _ (List.mem_filter.2 ⟨k, hk⟩))
        · exact Or.inr (List.mem_append_left _ k))
      refine ⟨left.filter (okIn g placed) :: ls, by unfold levelsGo; rw [if_neg h0, k1]; rfl, ⟨fun x => ?_, ?_⟩, by rw [List.flatten_cons, List.length_append, k4]; exact hlen⟩
      · rw [List.flatten_cons, List.mem_append, ← k2 x, List.mem_filter, List.mem_filter]
        constructor
        · intro h
          cases hk : okIn g placed x
          · exact Or.inr ⟨h, by simp⟩
          · exact Or.inl ⟨h, rfl⟩
        · rintro (⟨h, _⟩ | ⟨h, _⟩) <;> exact h
      · intro k l x hl hx
        cases k with
        | zero =>
          simp at hl; subst hl
          refine ⟨fun y hy => Or.inl (okIn_iff.1 (List.mem_filter.1 hx).2 y hy), fun h => absurd h (by omega)⟩
        | succ k =>
          have hl' : ls[k]? = some l := by simpa using hl
          obtain ⟨q1, q2⟩ := k3 k l x hl' hx
          refine ⟨fun y hy => ?_, fun _ => ?_⟩
          · rcases q1 y hy with q | q
            · rcases List.mem_append.1 q with q | q
              · exact Or.inl q
              · exact Or.inr (by simp only [List.take_succ_cons, List.flatten_cons]; exact List.mem_append_left _ q)
            · exact Or.inr (by simp only [List.take_succ_cons, List.flatten_cons]; exact List.mem_append_right _ q)
          · cases k with
            | zero =>
              have hxm : x ∈ ls.flatten := List.mem_flatten.2 ⟨l, List.mem_of_getElem? hl', hx⟩
              have hxf := List.mem_filter.1 ((k2 x).2 hxm)
              have hno : okIn g placed x = false := by simpa using hxf.2
              have : ∃ y ∈ g.im x, y ∉ placed := by
                apply Classical.byContradiction
                intro hn
                have : okIn g placed x = true := okIn_iff.2 fun i hi => Classical.byContradiction fun h => hn ⟨i, hi, h⟩
                rw [hno] at this; cases this
              obtain ⟨y, hy, hyp⟩ := this
              exact ⟨y, hy, hyp, by simp⟩
            | succ k =>
              obtain ⟨y, hy, hyp, hyl⟩ := q2 (by omega)
              refine ⟨y, hy, fun h => hyp (List.mem_append_left _ h), fun h => ?_⟩
              simp only [Nat.add_sub_cancel, List.take_succ_cons, List.flatten_cons] at h
              rcases List.mem_append.1 h with h | h
              · exact hyp (List.mem_append_right _ h)
              · exact hyl (by simpa using h)
theorem Calm.levels {g : Gr} (hc : Calm g) : ∃ ls, levelsS g = some ls ∧ Lev g [] g.ks ls ∧ ls.flatten.length = g.ks.length := levelsGo_some hc _ _ _ (Nat.le_refl _) (fun _ h => h) (fun _ h => Or.inl h)
/-- Why there is no order; 0: there is one. -/
def ordE (g : Gr) : Int := if (missS g).isSome = true then 31 else if ringS g = [] then 0 else 32
def ordC {α : Type} (q : Option α) (g : Gr) : Int := if q.isNone = true then 2 else ordE g
theorem calm_of {g : Gr} (hg : g.WF) (h : ordE g = 0) : Calm g := by
  unfold ordE at h
  split at h
  · cases h
  · rename_i hm
    split at h
    · rename_i hr
      have hmn : missS g = none := by
        cases hq : missS g with
        | none => rfl
        | some x => rw [hq] at hm; simp at hm
      refine ⟨fun u hu n hn => missGo_none.1 hmn u hu n hn, fun n hn => ?_⟩
      rcases ringS_spec hg with ⟨_, k⟩ | ⟨s, _, ⟨x, k, _⟩, _⟩
      · exact k n hn
      · obtain ⟨t, ht⟩ := k.head
        rw [hr] at ht; cases ht
    · cases h
end Go.Proofs.Ytajefmmggefbeaa.Dg
