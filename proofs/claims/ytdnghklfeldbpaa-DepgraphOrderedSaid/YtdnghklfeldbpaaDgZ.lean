/- In which level a node stands; plain. -/
import Derived.Test.YtdnghklfeldbpaaDgT
namespace Go.Proofs.Ytdnghklfeldbpaa.Dg
set_option linter.unusedSimpArgs false
set_option linter.unusedVariables false

/-- The level of a node. -/
def lv (ls : List (List Str)) (x : Str) : Nat := ls.findIdx fun l => decide (x ∈ l)
theorem mem_flat {ls : List (List Str)} {x : Str} (h : x ∈ ls.flatten) : ∃ (k : Nat) (l : List Str), ls[k]? = some l ∧ x ∈ l := by
  obtain ⟨l, hl, hx⟩ := List.mem_flatten.1 h
  obtain ⟨k, hk⟩ := List.getElem?_of_mem hl
  exact ⟨k, l, hk, hx⟩
theorem mem_flat_take {ls : List (List Str)} {x : Str} {k : Nat} : x ∈ (ls.take k).flatten ↔ ∃ (j : Nat) (l : List Str), j < k ∧ ls[j]? = some l ∧ x ∈ l := by
  constructor
  · intro h
    obtain ⟨j, l, hj, hx⟩ := mem_flat h
    have hjk : j < k := by have := (List.getElem?_eq_some_iff.1 hj).1; simp at this; omega
    rw [List.getElem?_take_of_lt hjk] at hj
    exact ⟨j, l, hjk, hj, hx⟩
  · rintro ⟨j, l, hjk, hj, hx⟩
    refine List.mem_flatten.2 ⟨l, List.mem_of_getElem? (i := j) ?_, hx⟩
    rw [List.getElem?_take_of_lt hjk]
    exact hj
/-- It stands in one alone. -/
theorem Lev.one {g : Gr} {ls : List (List Str)} (h : Lev g [] g.ks ls) {a b : Nat} {la lb : List Str} {x : Str} (ha : ls[a]? = some la) (hb : ls[b]? = some lb) (hxa : x ∈ la) (hxb : x ∈ lb) : a = b := by
  have key : ∀ {a b : Nat} {la lb : List Str}, ls[a]? = some la → ls[b]? = some lb → x ∈ la → x ∈ lb → ¬ a < b := by
    intro a b la lb ha hb hxa hxb hab
    obtain ⟨y, hy, _, hn⟩ := (h.2 b lb x hb hxb).2 (by omega)
    rcases (h.2 a la x ha hxa).1 y hy with q | q
    · cases q
    · obtain ⟨j, l, hj, hl, hyl⟩ := mem_flat_take.1 q
      exact hn (mem_flat_take.2 ⟨j, l, by omega, hl, hyl⟩)
  have h1 := key ha hb hxa hxb
  have h2 := key hb ha hxb hxa
  omega
theorem lv_at {ls : List (List Str)} {x : Str} (h : x ∈ ls.flatten) : ∃ l, ls[lv ls x]? = some l ∧ x ∈ l := by
  obtain ⟨l, hl, hx⟩ := List.mem_flatten.1 h
  have hlt : lv ls x < ls.length := List.findIdx_lt_length_of_exists ⟨l, hl, by simpa using hx⟩
  refine ⟨ls[lv ls x], List.getElem?_eq_getElem hlt, ?_⟩
  exact of_decide_eq_true (List.findIdx_getElem (p := fun l => decide (x ∈ l)) (xs := ls) (w := hlt))
theorem lv_is {g : Gr} {ls : List (List Str)} (h : Lev g [] g.ks ls) {k : Nat} {l : List Str} {x : Str} (hk : ls[k]? = some l) (hx : x ∈ l) : lv ls x = k := by
  obtain ⟨l', h1, h2⟩ := lv_at (List.mem_flatten.2 ⟨l, List.mem_of_getElem? hk, hx⟩)
  exact h.one h1 hk h2 hx
/-- What the law asks of the levels. -/
theorem lv_spec {g : Gr} {ls : List (List Str)} (h : Lev g [] g.ks ls) {x : Str} (hx : x ∈ g.ks) : (∀ y ∈ g.im x, lv ls y < lv ls x) ∧ (0 < lv ls x → ∃ y ∈ g.im x, lv ls y + 1 = lv ls x) := by
  obtain ⟨l, h1, h2⟩ := lv_at ((h.1 x).1 hx)
  have hlow : ∀ y ∈ g.im x, lv ls y < lv ls x := by
    intro y hy
    rcases (h.2 _ l x h1 h2).1 y hy with q | q
    · cases q
    · obtain ⟨j, l', hj, hl, hyl⟩ := mem_flat_take.1 q
      rw [lv_is h hl hyl]
      exact hj
  refine ⟨hlow, fun h0 => ?_⟩
  obtain ⟨y, hy, _, hn⟩ := (h.2 _ l x h1 h2).2 h0
  refine ⟨y, hy, ?_⟩
  have := hlow y hy
  apply Classical.byContradiction
  intro hne
  rcases (h.2 _ l x h1 h2).1 y hy with q | q
  · cases q
  · obtain ⟨j, l', hj, hl, hyl⟩ := mem_flat_take.1 q
    have e := lv_is h hl hyl
    exact hn (mem_flat_take.2 ⟨j, l', by omega, hl, hyl⟩)
end Go.Proofs.Ytdnghklfeldbpaa.Dg
