/- fold.Decls: in plain words; the row of what is known; valueAtFirst. -/
import Derived.Test.YtpjahcncknccdaaGreatFoK2
import Derived.Laws.MakeOwn
namespace Go.Proofs.YtpjahcncknccdaaGreat.Fo
open Go.RowKit Te
set_option linter.unusedSimpArgs false
set_option linter.unusedVariables false

/-- The value of a constant, or of a variable at first. -/
def valAt (d : De) (kn : List Con) : Vl × Int := match d.e with
  | .cons h k .nil => if (evalS kn h k).2 ≠ 0 then ((0, 0), (evalS kn h k).2) else if (evalS kn h k).1.1 ≠ d.type then ((0, 0), 22) else ((evalS kn h k).1, 0)
  | _ => ((0, 0), 22)
/-- The constants, the variables; or the place of an error, and the error. -/
def decGo (far : List Con) : List De → Nat → List Bs → List Con → List Con → List Con × List Con × Int × Int
  | [], _, _, cs, vs => (cs, vs, 0, 0)
  | d :: r, i, seen, cs, vs =>
    if d.name ∈ seen then ([], [], (i : Int), 20)
    else if d.kind ≠ 1 ∧ d.kind ≠ 2 then decGo far r (i + 1) (d.name :: seen) cs vs
    else if (valAt d (cs.reverse ++ far)).2 ≠ 0 then ([], [], (i : Int), (valAt d (cs.reverse ++ far)).2)
    else if d.kind = 2 then decGo far r (i + 1) (d.name :: seen) cs (vs ++ [⟨[], d.name, (valAt d (cs.reverse ++ far)).1.1, (valAt d (cs.reverse ++ far)).1.2⟩])
    else decGo far r (i + 1) (d.name :: seen) (cs ++ [⟨[], d.name, (valAt d (cs.reverse ++ far)).1.1, (valAt d (cs.reverse ++ far)).1.2⟩]) vs
def decS (far : List Con) (l : List De) : List Con × List Con × Int × Int := decGo far l 0 [] [] []
/-- A constant of nothing: what a row that was just made holds. -/
abbrev zC : Con := ⟨[], [], 0, 0⟩
/-- One element of a row put anew. -/
abbrev s4 (w : World) (g p : Nat) (c : Con) : World := (((w.setCell ⟨g, p, none⟩ (ct c.mod)).setCell ⟨g, p + 1, none⟩ (ct c.name)).setCell ⟨g, p + 2, none⟩ (ci c.t)).setCell ⟨g, p + 3, none⟩ (.int .u64 c.b)
theorem s4_fr (w : World) (g p : Nat) (c : Con) : Fr (fun k => k = g) w (s4 w g p c) := (((Fr.setCell w ⟨g, p, none⟩ _).same (Fr.setCell _ ⟨g, p + 1, none⟩ _)).same (Fr.setCell _ ⟨g, p + 2, none⟩ _)).same (Fr.setCell _ ⟨g, p + 3, none⟩ _)
theorem chunks_is : ∀ (l : List Con) (cs : List Value), Rw.Chunks RC 4 l cs → cs = l.flatMap coC
  | [], cs, h => h
  | c :: l, cs, ⟨d, rest, e, h1, h2, h3⟩ => by
    have h2 : d = coC c := h2
    rw [e, h2, chunks_is l rest h3, List.flatMap_cons]
theorem is_chunks : ∀ (l : List Con), Rw.Chunks RC 4 l (l.flatMap coC)
  | [] => rfl
  | c :: l => ⟨coC c, l.flatMap coC, by rw [List.flatMap_cons], rfl, rfl, is_chunks l⟩
theorem flat_set : ∀ (l : List Con) (i : Nat) (c : Con), i < l.length → (l.set i c).flatMap coC = ((((l.flatMap coC).set (i * 4) (ct c.mod)).set (i * 4 + 1) (ct c.name)).set (i * 4 + 2) (ci c.t)).set (i * 4 + 3) (.int .u64 c.b)
  | [], i, c, h => by simp at h
  | x :: l, 0, c, h => by simp [coC]
  | x :: l, i + 1, c, h => by
    have ih := flat_set l i c (by simpa using h)
    rw [List.set_cons_succ, List.flatMap_cons, ih, List.flatMap_cons]
    have e : ∀ (j : Nat), (i + 1) * 4 + j = (coC x).length + (i * 4 + j) := fun j => by simp [coC]; omega
    have e0 : (i + 1) * 4 = (coC x).length + i * 4 := by simp [coC]; omega
    rw [e 1, e 2, e 3, e0]
    simp only [List.set_append_right _ _ (Nat.le_add_right _ _), Nat.add_sub_cancel_left]
theorem cow_cur {w : World} {B : Nat} {ao : Option Addr} {n cap : Nat} {l : List Con} (h : CoW w B (.slice ao n cap) l) : (l = [] ∧ ao = none ∧ cap = 0) ∨ ∃ g cur, ao = some ⟨g, 0, none⟩ ∧ n = l.length ∧ w.heap[g]? = some (.cells cur 123 (0, 0)) ∧ B ≤ g ∧ n ≤ cap ∧ cap ≤ maxLen ∧ cur.size = cap * 4 ∧ cur.toList.take (l.length * 4) = l.flatMap coC := by
  obtain ⟨cells, h1, h2⟩ := h
  have e := chunks_is l cells h2
  rcases h1.2 with ⟨e1, h0⟩ | ⟨g, cap', cur, e1, hb, hg, hnc, hcm, hcs, ht⟩
  · cases e1
    exact Or.inl ⟨List.eq_nil_of_length_eq_zero h0, rfl, rfl⟩
  · cases e1
    exact Or.inr ⟨g, cur, rfl, rfl, hg, hb, hnc, hcm, hcs, by rw [ht, e]⟩
theorem cow_set {w : World} {B g n cap : Nat} {l : List Con} (h : CoW w B (.slice (some ⟨g, 0, none⟩) n cap) l) {i : Nat} (hi : i < l.length) (c : Con) : CoW (s4 w g (i * 4) c) B (.slice (some ⟨g, 0, none⟩) n cap) (l.set i c) := by
  rcases cow_cur h with ⟨rfl, _, _⟩ | ⟨g', cur, e, hn, hg, hB, hnc, hcm, hcs, ht⟩
  · simp at hi
  simp only [Option.some.injEq, Addr.mk.injEq, and_true] at e
  obtain ⟨rfl, _⟩ := e
  have h1 := heap_setCell_same w g (i * 4) cur 123 (ct c.mod) hg
  have h2 := heap_setCell_same _ g (i * 4 + 1) _ 123 (ct c.name) h1
  have h3 := heap_setCell_same _ g (i * 4 + 2) _ 123 (ci c.t) h2
  have h4 := heap_setCell_same _ g (i * 4 + 3) _ 123 (.int .u64 c.b) h3
  subst hn
  refine ⟨(l.set i c).flatMap coC, ⟨?_, Or.inr ⟨g, cap, _, by rw [List.length_set], hB, h4, by rw [List.length_set]; exact hnc, hcm, by simpa using hcs, ?_⟩⟩, is_chunks _⟩
  · rw [(is_chunks (l.set i c)).len]
  · rw [List.length_set, flat_set l i c hi, ← ht]
    simp only [Array.toList_setIfInBounds, List.take_set]
/-- What stands behind a place of the row. -/
theorem cow_drop {w : World} {B : Nat} {ao : Option Addr} {n cap : Nat} {l : List Con} (h : CoW w B (.slice ao n cap) l) (i : Nat) (hi : i ≤ l.length) (ao' : Option Addr) (ha : ∀ g, ao = some ⟨g, 0, none⟩ → i < cap → ao' = some ⟨g, i * 4, none⟩) : CoL w ao' (cap - i) (l.drop i) := by
  obtain ⟨ao2, cap2, e, hc⟩ := h.col
  cases e
  obtain ⟨c1, c2, c3⟩ := hc
  refine ⟨by rw [List.length_drop]; omega, by omega, ?_⟩
  by_cases hd : l.drop i = []
  · exact Or.inl hd
  · have hil : i < l.length := by
      apply Classical.byContradiction
      intro hn
      exact hd (List.drop_eq_nil_of_le (by omega))
    rcases cow_cur h with ⟨rfl, _, _⟩ | ⟨g, cur, rfl, hn, hg, hB, hnc, hcm, hcs, ht⟩
    · simp at hil
    · refine Or.inr ⟨g, i * 4, ha g rfl (by omega), fun j x hx k u hu => ?_⟩
      rw [List.getElem?_drop] at hx
      rcases c3 with c3 | ⟨b, off, eb, c3⟩
      · rw [c3] at hil; simp at hil
      · cases eb
        have := c3 (i + j) x hx k u hu
        rw [show i * 4 + j * 4 + k = 0 + (i + j) * 4 + k by omega]
        exact this
/-- A row that was just made. -/
theorem flat_zero (n j : Nat) (hj : j < n * 4) : ((List.replicate n zC).flatMap coC)[j]? = (coC zC)[j % 4]? := by
  have hc := is_chunks (List.replicate n zC)
  have hi : (List.replicate n zC)[j / 4]? = some zC := by rw [List.getElem?_replicate, if_pos (by omega)]
  obtain ⟨c, h1, h2, h3⟩ := hc.get hi
  have h1 : c = coC zC := h1
  subst h1
  have hm : j % 4 < (coC zC).length := by simp [coC]; omega
  have := h3 (j % 4) _ (List.getElem?_eq_getElem hm)
  rw [show j / 4 * 4 + j % 4 = j by omega] at this
  rw [this, List.getElem?_eq_getElem hm]
theorem made_get (n j : Nat) (hj : j < n) : (madeCells (Value.agg #[.string ⟨#[]⟩, .string ⟨#[]⟩, .int .i64 0, .int .u64 0]).cells n)[j]? = (coC zC)[j % 4]? := by
  have h4 : j % 4 = 0 ∨ j % 4 = 1 ∨ j % 4 = 2 ∨ j % 4 = 3 := by omega
  unfold madeCells
  rw [Array.getElem?_map]
  have : (Array.range n)[j]? = some j := by simp [hj]
  rw [this]
  show some ((#[.string ⟨#[]⟩, .string ⟨#[]⟩, .int .i64 0, .int .u64 0] : Array Value)[j % 4]!) = _
  rcases h4 with h | h | h | h <;> rw [h] <;> rfl
theorem made_row (w : World) (n cap : Nat) (h : n ≤ cap) (hc : cap ≤ maxLen) : CoW (w.alloc (.cells (madeCells (Value.agg #[.string ⟨#[]⟩, .string ⟨#[]⟩, .int .i64 0, .int .u64 0]).cells (cap * 4)) 123)) w.heap.size (.slice (some ⟨w.heap.size, 0, none⟩) n cap) (List.replicate n zC) := by
  refine ⟨(List.replicate n zC).flatMap coC, ⟨?_, Or.inr ⟨w.heap.size, cap, _, by rw [List.length_replicate], Nat.le_refl _, alloc_new w _, by rw [List.length_replicate]; exact h, hc, size_madeCells _ _, ?_⟩⟩, is_chunks _⟩
  · rw [(is_chunks (List.replicate n zC)).len]
  · rw [List.length_replicate]
    apply List.ext_getElem?
    intro j
    by_cases hj : j < n * 4
    · rw [List.getElem?_take_of_lt hj, flat_zero n j hj]
      have := made_get (cap * 4) j (by omega)
      rw [← this]
      simp
    · rw [List.getElem?_eq_none (by rw [List.length_take]; omega), List.getElem?_eq_none (by rw [(is_chunks (List.replicate n zC)).len, List.length_replicate]; omega)]
theorem make_any (w : World) (n cap : Nat) (h : n ≤ cap) (hc : cap ≤ 1048576) : (Instr.makeSlice 82 (.int .i64 (n : Int)) (.int .i64 (cap : Int))).run Tryz.prog w = .ok (.slice (some ⟨w.heap.size, 0, none⟩) n cap) (w.alloc (.cells (madeCells (Value.agg #[.string ⟨#[]⟩, .string ⟨#[]⟩, .int .i64 0, .int .u64 0]).cells (cap * 4)) 123)) := by
  cases hi : Tryz.prog.info? 123 with
  | none => have := info_con; rw [hi] at this; cases this
  | some i =>
    have hh := info_con
    rw [hi] at hh
    simp only [Option.map_some, Option.some.injEq, Prod.mk.injEq] at hh
    have := run_makeSlice (P := Tryz.prog) w 82 123 i _ Tryz.underlying82 hi hh.1 .i64 .i64 n cap (by omega) (by omega) (by rw [hh.2.1]; simp; omega) (by rw [hh.2.2]; omega) (by omega)
    rw [this, hh.2.1]
    simp
end Go.Proofs.YtpjahcncknccdaaGreat.Fo
