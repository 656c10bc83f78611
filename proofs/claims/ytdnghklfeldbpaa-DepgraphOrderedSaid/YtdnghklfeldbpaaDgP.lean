/- Two nodes exchanged, the imports of one turned round and one of them put in twice: the same graph. -/
import Derived.Test.YtdnghklfeldbpaaDgK2
namespace Go.Proofs.Ytdnghklfeldbpaa.Dg
set_option linter.unusedSimpArgs false
set_option linter.unusedVariables false

def turn (l : List Str) : List Str := l.reverse ++ l.reverse.take 1
theorem mem_turn {l : List Str} {x : Str} : x ∈ turn l ↔ x ∈ l := by
  unfold turn
  rw [List.mem_append, List.mem_reverse]
  exact ⟨fun h => h.elim id fun h => List.mem_reverse.1 (List.mem_of_mem_take h), Or.inl⟩
theorem turn_len (l : List Str) : (turn l).length ≤ l.length + 1 := by
  unfold turn
  simp only [List.length_append, List.length_reverse, List.length_take]
  omega
theorem swap_perm {L : List Str} {i k : Nat} {a b : Str} (hi : L[i]? = some a) (hk : L[k]? = some b) : ((L.set i b).set k a).Perm L := by
  obtain ⟨h1, g1⟩ := List.getElem?_eq_some_iff.1 hi
  obtain ⟨h2, g2⟩ := List.getElem?_eq_some_iff.1 hk
  rw [List.perm_iff_count]
  intro s
  have g3 : (L.set i b)[k]'(by simpa using h2) = b := by
    rw [List.getElem_set]
    split
    · rfl
    · exact g2
  rw [List.count_set (by simpa using h2), List.count_set h1, g3, g1]
  have hc : (if (a == s) = true then 1 else 0) ≤ L.count s := by
    split
    · rename_i h
      rw [← eq_of_beq h]
      exact List.count_pos_iff.2 (List.mem_of_getElem? hi)
    · omega
  omega
def shuf (nl : List Nd) (i k : Nat) (x y : Nd) : List Nd := (nl.set i y).set k (x.1, turn x.2)
section
variable {nl : List Nd} {i k : Nat} {x y : Nd} (hi : nl[i]? = some x) (hk : nl[k]? = some y)
include hi hk
theorem shuf_get (j : Nat) : (shuf nl i k x y)[j]? = if j = k then some (x.1, turn x.2) else if j = i then some y else nl[j]? := by
  have h1 : i < nl.length := (List.getElem?_eq_some_iff.1 hi).1
  have h2 : k < nl.length := (List.getElem?_eq_some_iff.1 hk).1
  unfold shuf
  rw [List.getElem?_set, List.getElem?_set]
  by_cases e1 : k = j
  · subst e1; simp [h2]
  · have e1' : ¬ j = k := fun e => e1 e.symm
    by_cases e2 : i = j
    · subst e2; simp [h1, e1, e1']
    · have e2' : ¬ j = i := fun e => e2 e.symm
      simp [e1, e2, e1', e2']
theorem all_shuf {P : Nd → Prop} (hP : P (x.1, turn x.2) ↔ P x) : (∀ n ∈ shuf nl i k x y, P n) ↔ ∀ n ∈ nl, P n := by
  constructor
  · intro h n hn
    obtain ⟨j, hj⟩ := List.getElem?_of_mem hn
    by_cases e1 : j = i
    · subst e1
      have : n = x := by rw [hi] at hj; exact (Option.some.inj hj).symm
      subst this
      exact hP.1 (h _ (List.mem_of_getElem? ((shuf_get hi hk k).trans (by rw [if_pos rfl]))))
    · by_cases e2 : j = k
      · subst e2
        have : n = y := by rw [hk] at hj; exact (Option.some.inj hj).symm
        subst this
        exact h _ (List.mem_of_getElem? ((shuf_get hi hk i).trans (by rw [if_neg (fun e => e1 e.symm), if_pos rfl])))
      · exact h _ (List.mem_of_getElem? ((shuf_get hi hk j).trans (by rw [if_neg e2, if_neg e1]; exact hj)))
  · intro h n hn
    obtain ⟨j, hj⟩ := List.getElem?_of_mem hn
    rw [shuf_get hi hk] at hj
    split at hj
    · rw [← Option.some.inj hj]; exact hP.2 (h x (List.mem_of_getElem? hi))
    · split at hj
      · rw [← Option.some.inj hj]; exact h y (List.mem_of_getElem? hk)
      · exact h n (List.mem_of_getElem? hj)
theorem any_shuf {p : Nd → Bool} (hp : p (x.1, turn x.2) = p x) : (shuf nl i k x y).any p = nl.any p := by
  have h := all_shuf hi hk (P := fun n => ¬ p n = true) (by rw [hp])
  cases h2 : nl.any p
  · rw [List.any_eq_false] at h2
    exact List.any_eq_false.2 (h.2 h2)
  · cases h1 : (shuf nl i k x y).any p
    · have := List.any_eq_false.2 (h.1 (List.any_eq_false.1 h1))
      rw [this] at h2; cases h2
    · rfl
theorem shuf_perm : ((shuf nl i k x y).map (·.1)).Perm (nl.map (·.1)) := by
  unfold shuf
  rw [List.map_set, List.map_set]
  exact swap_perm (by rw [List.getElem?_map, hi]; rfl) (by rw [List.getElem?_map, hk]; rfl)
theorem newE_shuf (hx : x.2.length < 16) : newE (shuf nl i k x y) = newE nl := by
  have hb : bigS (shuf nl i k x y) = bigS nl := by
    unfold bigS
    rw [any_shuf hi hk (by
      have := turn_len x.2
      rw [decide_eq_false (by show ¬ 16 < (turn x.2).length; omega), decide_eq_false (by omega)])]
    have : (shuf nl i k x y).length = nl.length := by unfold shuf; simp
    rw [this]
  have hd : badS (shuf nl i k x y) = badS nl := by
    unfold badS
    refine any_shuf hi hk ?_
    congr 1
    cases h2 : x.2.any badN
    · rw [List.any_eq_false] at h2 ⊢
      exact fun z hz => h2 z (mem_turn.1 hz)
    · rw [List.any_eq_true] at h2 ⊢
      obtain ⟨z, h1, h2⟩ := h2
      exact ⟨z, mem_turn.2 h1, h2⟩
  have hn := (shuf_perm hi hk).nodup_iff
  unfold newE
  rw [hb, hd]
  by_cases h : (nl.map (·.1)).Nodup
  · rw [if_pos h, if_pos (hn.2 h)]
  · rw [if_neg h, if_neg (fun q => h (hn.1 q))]
theorem mem_shuf {n : Nd} (hn : n ∈ nl) : ∃ n' ∈ shuf nl i k x y, n'.1 = n.1 ∧ ∀ z, z ∈ n'.2 ↔ z ∈ n.2 := by
  obtain ⟨j, hj⟩ := List.getElem?_of_mem hn
  by_cases e1 : j = i
  · subst e1
    have : n = x := by rw [hi] at hj; exact (Option.some.inj hj).symm
    subst this
    exact ⟨(n.1, turn n.2), List.mem_of_getElem? ((shuf_get hi hk k).trans (by rw [if_pos rfl])), rfl, fun z => mem_turn⟩
  · by_cases e2 : j = k
    · subst e2
      have : n = y := by rw [hk] at hj; exact (Option.some.inj hj).symm
      subst this
      exact ⟨_, List.mem_of_getElem? ((shuf_get hi hk i).trans (by rw [if_neg (fun e => e1 e.symm), if_pos rfl])), rfl, fun z => Iff.rfl⟩
    · exact ⟨n, List.mem_of_getElem? ((shuf_get hi hk j).trans (by rw [if_neg e2, if_neg e1]; exact hj)), rfl, fun z => Iff.rfl⟩
theorem gOf_shuf (hnd : (nl.map (·.1)).Nodup) : gOf (shuf nl i k x y) = gOf nl := by
  have hp := shuf_perm hi hk
  have hnd' := hp.nodup_iff.2 hnd
  unfold gOf
  congr 1
  · exact setS_eq fun s => hp.mem_iff
  · funext s
    by_cases hs : s ∈ nl.map (·.1)
    · obtain ⟨n, hn, rfl⟩ := List.mem_map.1 hs
      obtain ⟨n', h1, h2, h3⟩ := mem_shuf hi hk hn
      rw [find_nodup hnd hn, ← h2, find_nodup hnd' h1]
      exact setS_eq h3
    · rw [find_none hs, find_none (fun h => hs (hp.mem_iff.1 h))]
end
theorem newE_nodup {nl : List Nd} (h : newE nl = 0) : (nl.map (·.1)).Nodup := by
  unfold newE at h
  split at h
  · cases h
  · split at h
    · cases h
    · split at h
      · assumption
      · cases h
theorem shuf_ok {nl : List Nd} {i k : Nat} {x y : Nd} (hi : nl[i]? = some x) (hk : nl[k]? = some y) (h : ∀ n ∈ nl, OkN n.1 ∧ ∀ x ∈ n.2, OkN x) : ∀ n ∈ shuf nl i k x y, OkN n.1 ∧ ∀ x ∈ n.2, OkN x :=
  (all_shuf hi hk (P := fun n => OkN n.1 ∧ ∀ x ∈ n.2, OkN x) ⟨fun h => ⟨h.1, fun z hz => h.2 z (mem_turn.2 hz)⟩, fun h => ⟨h.1, fun z hz => h.2 z (mem_turn.1 hz)⟩⟩).2 h
end Go.Proofs.Ytdnghklfeldbpaa.Dg
