/- Texts of ours, in one. -/
import Derived.Test.YtoiglopilpoafaaGreatDoorPk39
namespace Go.Proofs.YtoiglopilpoafaaGreatDoor.Cd
open Go.RowKit Ty
set_option linter.unusedSimpArgs false
set_option linter.unusedVariables false

theorem wpOp_at {P : Program} {ops : Array Oper} {Q : Exit → Act → World → Prop} {i : Nat} {K : Act → World → Prop} {a : Act} {w : World} (o : Oper) (ho : ops[i]? = some o) (hg : o.guard = none) (h : ∀ K' : Act → World → Prop, (∀ a w, K a w → K' a w) → o.wp P a w K' Q) : wpOp P ops Q i K a w := by
  unfold wpOp
  rw [ho]
  simp only []
  rw [if_pos (by simp [Region.wanted, hg])]
  exact Or.inl (h K fun _ _ h => h)
theorem eval_at {d : List Deferred} {T : Array Value} {s : Nat} {v : Value} (h : T[s]? = some v) : ({ tmps := T, defers := d } : Act).eval (.tmp s) = v := by
  simp only [Act.eval, Array.getD_eq_getD_getElem?, h, Option.getD_some]
theorem upd {l : Array Bool} {i k : Nat} (h : (l.setIfInBounds i true).getD k false = true) : k = i ∨ l.getD k false = true := by
  by_cases e : k = i
  · exact Or.inl e
  · rw [Array.getD_eq_getD_getElem?, Array.getElem?_setIfInBounds_ne (fun e2 => e e2.symm), ← Array.getD_eq_getD_getElem?] at h
    exact Or.inr h
theorem fn_w {w w' : World} {g : Nat} (h : Fr (fun _ => False) w w') {o : Obj} (hg : w.heap[g]? = some o) : w'.heap[g]? = some o := h.heap hg (fun f => f)
/-- What stands once these operations have come up. -/
structure OwJ (V : World) (A : Array Value) (f : Fu) (p : Fm) (fa pa : Array Value) (d1 d2 d3 d4 d9 d10 : Nat) (l : Array Bool) (T : Array Value) (w : World) : Prop where
  sz : T.size = A.size
  off : ∀ k, k ≠ d1 → k ≠ d2 → k ≠ d3 → k ≠ d4 → k ≠ d9 → k ≠ d10 → T[k]? = A[k]?
  fr : Fr (fun _ => False) V w
  v1 : l.getD 0 false = true → T[d1]? = some (.agg fa)
  v2 : l.getD 1 false = true → ∃ b0 b2 b3 e0 e2 e3, T[d2]? = some (.agg (fnV f b0 b2 b3 e0 e2 e3)) ∧ FnO w V.heap.size (.agg (fnV f b0 b2 b3 e0 e2 e3)) f
  v3 : l.getD 2 false = true → T[d3]? = some (.agg pa)
  v4 : l.getD 3 false = true → ∃ b4 b5 e4 e5, T[d4]? = some (.agg (fmV p b4 b5 e4 e5)) ∧ FmO w V.heap.size (.agg (fmV p b4 b5 e4 e5)) p
  v9 : l.getD 4 false = true → ∃ g o, T[d9]? = some (.pointer (some ⟨g, 0, none⟩)) ∧ V.heap.size ≤ g ∧ o.size = 4 ∧ w.heap[g]? = some (.cells o 46 (0, 0)) ∧ (l.getD 6 false = true → T[d2]? = some (.agg o))
  v10 : l.getD 5 false = true → ∃ g o, T[d10]? = some (.pointer (some ⟨g, 0, none⟩)) ∧ V.heap.size ≤ g ∧ o.size = 2 ∧ w.heap[g]? = some (.cells o 64 (0, 0)) ∧ (l.getD 7 false = true → T[d4]? = some (.agg o))
  o6 : l.getD 6 false = true → l.getD 1 false = true ∧ l.getD 4 false = true
  o7 : l.getD 7 false = true → l.getD 3 false = true ∧ l.getD 5 false = true
theorem keepL {l : Array Bool} {i k : Nat} (h : l.getD k false = true) : (l.setIfInBounds i true).getD k false = true := by
  by_cases e : k = i
  · subst e
    by_cases hk : k < l.size
    · rw [Array.getD_eq_getD_getElem?, Array.getElem?_setIfInBounds_self_of_lt hk]; rfl
    · rw [Array.getD_eq_getD_getElem?, Array.getElem?_eq_none (by omega)] at h; cases h
  · rw [Array.getD_eq_getD_getElem?, Array.getElem?_setIfInBounds_ne (fun e2 => e e2.symm), ← Array.getD_eq_getD_getElem?]; exact h
theorem not_l {l : Array Bool} {k : Nat} (h : l.getD k true = false) : l.getD k false = false := by
  by_cases hk : k < l.size
  · rw [Array.getD_eq_getD_getElem?, Array.getElem?_eq_getElem hk] at h ⊢; exact h
  · rw [Array.getD_eq_getD_getElem?, Array.getElem?_eq_none (by omega)] at h; cases h
theorem OwJ.s0 {V : World} {A fa pa : Array Value} {f : Fu} {p : Fm} {d1 d2 d3 d4 d9 d10 : Nat} {l : Array Bool} {T : Array Value} {w w' : World} {v : Value} (h : OwJ V A f p fa pa d1 d2 d3 d4 d9 d10 l T w) (hd : [d1, d2, d3, d4, d9, d10].Nodup) (hlt : d1 < A.size) (fr : Fr (fun _ => False) w w') (hv : v = .agg fa) : OwJ V A f p fa pa d1 d2 d3 d4 d9 d10 (l.setIfInBounds 0 true) (T.setIfInBounds d1 v) w' := by
  simp only [List.nodup_cons, List.mem_cons, not_or, List.not_mem_nil, not_false_iff, List.nodup_nil, and_true] at hd
  obtain ⟨⟨n01, n02, n03, n04, n05⟩, ⟨n12, n13, n14, n15⟩, ⟨n23, n24, n25⟩, ⟨n34, n35⟩, n45⟩ := hd
  have self : (T.setIfInBounds d1 v)[d1]? = some v := by rw [Array.getElem?_setIfInBounds_self_of_lt (by rw [h.sz]; exact hlt)]
  have oth : ∀ e, e ≠ d1 → (T.setIfInBounds d1 v)[e]? = T[e]? := fun e he => Array.getElem?_setIfInBounds_ne (fun e2 => he e2.symm)
  refine ⟨by rw [Array.size_setIfInBounds]; exact h.sz, fun k k1 k2 k3 k4 k9 k10 => (oth k (by assumption)).trans (h.off k k1 k2 k3 k4 k9 k10), h.fr.same fr, ?_, ?_, ?_, ?_, ?_, ?_, ?_, ?_⟩
  · intro _; rw [self, hv]
  · intro hl; have hl2 : l.getD 1 false = true := by (rcases upd hl with e | e; (focus omega); exact e)
    obtain ⟨b0, b2, b3, e0, e2, e3, h1, h2⟩ := h.v2 hl2; exact ⟨b0, b2, b3, e0, e2, e3, (oth d2 (by omega)).trans h1, h2.keepN fr⟩
  · intro hl; have hl2 : l.getD 2 false = true := by (rcases upd hl with e | e; (focus omega); exact e)
    exact (oth d3 (by omega)).trans (h.v3 hl2)
  · intro hl; have hl2 : l.getD 3 false = true := by (rcases upd hl with e | e; (focus omega); exact e)
    obtain ⟨b4, b5, e4, e5, h1, h2⟩ := h.v4 hl2; exact ⟨b4, b5, e4, e5, (oth d4 (by omega)).trans h1, h2.keepN fr⟩
  · intro hl; have hl2 : l.getD 4 false = true := by (rcases upd hl with e | e; (focus omega); exact e)
    obtain ⟨g, o, h1, h2, h3, h4, h5⟩ := h.v9 hl2; exact ⟨g, o, (oth d9 (by omega)).trans h1, h2, h3, fn_w fr h4, fun hx => (oth d2 (by omega)).trans (h5 (by rcases upd hx with e | e; (focus omega); exact e))⟩
  · intro hl; have hl2 : l.getD 5 false = true := by (rcases upd hl with e | e; (focus omega); exact e)
    obtain ⟨g, o, h1, h2, h3, h4, h5⟩ := h.v10 hl2; exact ⟨g, o, (oth d10 (by omega)).trans h1, h2, h3, fn_w fr h4, fun hx => (oth d4 (by omega)).trans (h5 (by rcases upd hx with e | e; (focus omega); exact e))⟩
  · intro hl; have := h.o6 (by rcases upd hl with e | e; (focus omega); exact e); exact ⟨keepL this.1, keepL this.2⟩
  · intro hl; have := h.o7 (by rcases upd hl with e | e; (focus omega); exact e); exact ⟨keepL this.1, keepL this.2⟩
theorem OwJ.s1 {V : World} {A fa pa : Array Value} {f : Fu} {p : Fm} {d1 d2 d3 d4 d9 d10 : Nat} {l : Array Bool} {T : Array Value} {w w' : World} {v : Value} (h : OwJ V A f p fa pa d1 d2 d3 d4 d9 d10 l T w) (hd : [d1, d2, d3, d4, d9, d10].Nodup) (hlt : d2 < A.size) (fr : Fr (fun _ => False) w w') (hv : ∃ b0 b2 b3 e0 e2 e3, v = .agg (fnV f b0 b2 b3 e0 e2 e3) ∧ FnO w' V.heap.size (.agg (fnV f b0 b2 b3 e0 e2 e3)) f) (hn6 : l.getD 6 false = false) : OwJ V A f p fa pa d1 d2 d3 d4 d9 d10 (l.setIfInBounds 1 true) (T.setIfInBounds d2 v) w' := by
  simp only [List.nodup_cons, List.mem_cons, not_or, List.not_mem_nil, not_false_iff, List.nodup_nil, and_true] at hd
  obtain ⟨⟨n01, n02, n03, n04, n05⟩, ⟨n12, n13, n14, n15⟩, ⟨n23, n24, n25⟩, ⟨n34, n35⟩, n45⟩ := hd
  have self : (T.setIfInBounds d2 v)[d2]? = some v := by rw [Array.getElem?_setIfInBounds_self_of_lt (by rw [h.sz]; exact hlt)]
  have oth : ∀ e, e ≠ d2 → (T.setIfInBounds d2 v)[e]? = T[e]? := fun e he => Array.getElem?_setIfInBounds_ne (fun e2 => he e2.symm)
  refine ⟨by rw [Array.size_setIfInBounds]; exact h.sz, fun k k1 k2 k3 k4 k9 k10 => (oth k (by assumption)).trans (h.off k k1 k2 k3 k4 k9 k10), h.fr.same fr, ?_, ?_, ?_, ?_, ?_, ?_, ?_, ?_⟩
  · intro hl; have hl2 : l.getD 0 false = true := by (rcases upd hl with e | e; (focus omega); exact e)
    exact (oth d1 (by omega)).trans (h.v1 hl2)
  · intro _; obtain ⟨b0, b2, b3, e0, e2, e3, rfl, hF⟩ := hv; exact ⟨b0, b2, b3, e0, e2, e3, self, hF⟩
  · intro hl; have hl2 : l.getD 2 false = true := by (rcases upd hl with e | e; (focus omega); exact e)
    exact (oth d3 (by omega)).trans (h.v3 hl2)
  · intro hl; have hl2 : l.getD 3 false = true := by (rcases upd hl with e | e; (focus omega); exact e)
    obtain ⟨b4, b5, e4, e5, h1, h2⟩ := h.v4 hl2; exact ⟨b4, b5, e4, e5, (oth d4 (by omega)).trans h1, h2.keepN fr⟩
  · intro hl; have hl2 : l.getD 4 false = true := by (rcases upd hl with e | e; (focus omega); exact e)
    obtain ⟨g, o, h1, h2, h3, h4, h5⟩ := h.v9 hl2; exact ⟨g, o, (oth d9 (by omega)).trans h1, h2, h3, fn_w fr h4, fun hx => by rcases upd hx with e | e; (focus omega); rw [hn6] at e; cases e⟩
  · intro hl; have hl2 : l.getD 5 false = true := by (rcases upd hl with e | e; (focus omega); exact e)
    obtain ⟨g, o, h1, h2, h3, h4, h5⟩ := h.v10 hl2; exact ⟨g, o, (oth d10 (by omega)).trans h1, h2, h3, fn_w fr h4, fun hx => (oth d4 (by omega)).trans (h5 (by rcases upd hx with e | e; (focus omega); exact e))⟩
  · intro hl; have := h.o6 (by rcases upd hl with e | e; (focus omega); exact e); exact ⟨keepL this.1, keepL this.2⟩
  · intro hl; have := h.o7 (by rcases upd hl with e | e; (focus omega); exact e); exact ⟨keepL this.1, keepL this.2⟩
theorem OwJ.s2 {V : World} {A fa pa : Array Value} {f : Fu} {p : Fm} {d1 d2 d3 d4 d9 d10 : Nat} {l : Array Bool} {T : Array Value} {w w' : World} {v : Value} (h : OwJ V A f p fa pa d1 d2 d3 d4 d9 d10 l T w) (hd : [d1, d2, d3, d4, d9, d10].Nodup) (hlt : d3 < A.size) (fr : Fr (fun _ => False) w w') (hv : v = .agg pa) : OwJ V A f p fa pa d1 d2 d3 d4 d9 d10 (l.setIfInBounds 2 true) (T.setIfInBounds d3 v) w' := by
  simp only [List.nodup_cons, List.mem_cons, not_or, List.not_mem_nil, not_false_iff, List.nodup_nil, and_true] at hd
  obtain ⟨⟨n01, n02, n03, n04, n05⟩, ⟨n12, n13, n14, n15⟩, ⟨n23, n24, n25⟩, ⟨n34, n35⟩, n45⟩ := hd
  have self : (T.setIfInBounds d3 v)[d3]? = some v := by rw [Array.getElem?_setIfInBounds_self_of_lt (by rw [h.sz]; exact hlt)]
  have oth : ∀ e, e ≠ d3 → (T.setIfInBounds d3 v)[e]? = T[e]? := fun e he => Array.getElem?_setIfInBounds_ne (fun e2 => he e2.symm)
  refine ⟨by rw [Array.size_setIfInBounds]; exact h.sz, fun k k1 k2 k3 k4 k9 k10 => (oth k (by assumption)).trans (h.off k k1 k2 k3 k4 k9 k10), h.fr.same fr, ?_, ?_, ?_, ?_, ?_, ?_, ?_, ?_⟩
  · intro hl; have hl2 : l.getD 0 false = true := by (rcases upd hl with e | e; (focus omega); exact e)
    exact (oth d1 (by omega)).trans (h.v1 hl2)
  · intro hl; have hl2 : l.getD 1 false = true := by (rcases upd hl with e | e; (focus omega); exact e)
    obtain ⟨b0, b2, b3, e0, e2, e3, h1, h2⟩ := h.v2 hl2; exact ⟨b0, b2, b3, e0, e2, e3, (oth d2 (by omega)).trans h1, h2.keepN fr⟩
  · intro _; rw [self, hv]
  · intro hl; have hl2 : l.getD 3 false = true := by (rcases upd hl with e | e; (focus omega); exact e)
    obtain ⟨b4, b5, e4, e5, h1, h2⟩ := h.v4 hl2; exact ⟨b4, b5, e4, e5, (oth d4 (by omega)).trans h1, h2.keepN fr⟩
  · intro hl; have hl2 : l.getD 4 false = true := by (rcases upd hl with e | e; (focus omega); exact e)
    obtain ⟨g, o, h1, h2, h3, h4, h5⟩ := h.v9 hl2; exact ⟨g, o, (oth d9 (by omega)).trans h1, h2, h3, fn_w fr h4, fun hx => (oth d2 (by omega)).trans (h5 (by rcases upd hx with e | e; (focus omega); exact e))⟩
  · intro hl; have hl2 : l.getD 5 false = true := by (rcases upd hl with e | e; (focus omega); exact e)
    obtain ⟨g, o, h1, h2, h3, h4, h5⟩ := h.v10 hl2; exact ⟨g, o, (oth d10 (by omega)).trans h1, h2, h3, fn_w fr h4, fun hx => (oth d4 (by omega)).trans (h5 (by rcases upd hx with e | e; (focus omega); exact e))⟩
  · intro hl; have := h.o6 (by rcases upd hl with e | e; (focus omega); exact e); exact ⟨keepL this.1, keepL this.2⟩
  · intro hl; have := h.o7 (by rcases upd hl with e | e; (focus omega); exact e); exact ⟨keepL this.1, keepL this.2⟩
theorem OwJ.s3 {V : World} {A fa pa : Array Value} {f : Fu} {p : Fm} {d1 d2 d3 d4 d9 d10 : Nat} {l : Array Bool} {T : Array Value} {w w' : World} {v : Value} (h : OwJ V A f p fa pa d1 d2 d3 d4 d9 d10 l T w) (hd : [d1, d2, d3, d4, d9, d10].Nodup) (hlt : d4 < A.size) (fr : Fr (fun _ => False) w w') (hv : ∃ b4 b5 e4 e5, v = .agg (fmV p b4 b5 e4 e5) ∧ FmO w' V.heap.size (.agg (fmV p b4 b5 e4 e5)) p) (hn7 : l.getD 7 false = false) : OwJ V A f p fa pa d1 d2 d3 d4 d9 d10 (l.setIfInBounds 3 true) (T.setIfInBounds d4 v) w' := by
  simp only [List.nodup_cons, List.mem_cons, not_or, List.not_mem_nil, not_false_iff, List.nodup_nil, and_true] at hd
  obtain ⟨⟨n01, n02, n03, n04, n05⟩, ⟨n12, n13, n14, n15⟩, ⟨n23, n24, n25⟩, ⟨n34, n35⟩, n45⟩ := hd
  have self : (T.setIfInBounds d4 v)[d4]? = some v := by rw [Array.getElem?_setIfInBounds_self_of_lt (by rw [h.sz]; exact hlt)]
  have oth : ∀ e, e ≠ d4 → (T.setIfInBounds d4 v)[e]? = T[e]? := fun e he => Array.getElem?_setIfInBounds_ne (fun e2 => he e2.symm)
  refine ⟨by rw [Array.size_setIfInBounds]; exact h.sz, fun k k1 k2 k3 k4 k9 k10 => (oth k (by assumption)).trans (h.off k k1 k2 k3 k4 k9 k10), h.fr.same fr, ?_, ?_, ?_, ?_, ?_, ?_, ?_, ?_⟩
  · intro hl; have hl2 : l.getD 0 false = true := by (rcases upd hl with e | e; (focus omega); exact e)
    exact (oth d1 (by omega)).trans (h.v1 hl2)
  · intro hl; have hl2 : l.getD 1 false = true := by (rcases upd hl with e | e; (focus omega); exact e)
    obtain ⟨b0, b2, b3, e0, e2, e3, h1, h2⟩ := h.v2 hl2; exact ⟨b0, b2, b3, e0, e2, e3, (oth d2 (by omega)).trans h1, h2.keepN fr⟩
  · intro hl; have hl2 : l.getD 2 false = true := by (rcases upd hl with e | e; (focus omega); exact e)
    exact (oth d3 (by omega)).trans (h.v3 hl2)
  · intro _; obtain ⟨b4, b5, e4, e5, rfl, hF⟩ := hv; exact ⟨b4, b5, e4, e5, self, hF⟩
  · intro hl; have hl2 : l.getD 4 false = true := by (rcases upd hl with e | e; (focus omega); exact e)
    obtain ⟨g, o, h1, h2, h3, h4, h5⟩ := h.v9 hl2; exact ⟨g, o, (oth d9 (by omega)).trans h1, h2, h3, fn_w fr h4, fun hx => (oth d2 (by omega)).trans (h5 (by rcases upd hx with e | e; (focus omega); exact e))⟩
  · intro hl; have hl2 : l.getD 5 false = true := by (rcases upd hl with e | e; (focus omega); exact e)
    obtain ⟨g, o, h1, h2, h3, h4, h5⟩ := h.v10 hl2; exact ⟨g, o, (oth d10 (by omega)).trans h1, h2, h3, fn_w fr h4, fun hx => by rcases upd hx with e | e; (focus omega); rw [hn7] at e; cases e⟩
  · intro hl; have := h.o6 (by rcases upd hl with e | e; (focus omega); exact e); exact ⟨keepL this.1, keepL this.2⟩
  · intro hl; have := h.o7 (by rcases upd hl with e | e; (focus omega); exact e); exact ⟨keepL this.1, keepL this.2⟩
theorem OwJ.s4 {V : World} {A fa pa : Array Value} {f : Fu} {p : Fm} {d1 d2 d3 d4 d9 d10 : Nat} {l : Array Bool} {T : Array Value} {w w' : World} {v : Value} (h : OwJ V A f p fa pa d1 d2 d3 d4 d9 d10 l T w) (hd : [d1, d2, d3, d4, d9, d10].Nodup) (hlt : d9 < A.size) (fr : Fr (fun _ => False) w w') (hv : ∃ g o, v = .pointer (some ⟨g, 0, none⟩) ∧ V.heap.size ≤ g ∧ o.size = 4 ∧ w'.heap[g]? = some (.cells o 46 (0, 0))) (hn6 : l.getD 6 false = false) : OwJ V A f p fa pa d1 d2 d3 d4 d9 d10 (l.setIfInBounds 4 true) (T.setIfInBounds d9 v) w' := by
  simp only [List.nodup_cons, List.mem_cons, not_or, List.not_mem_nil, not_false_iff, List.nodup_nil, and_true] at hd
  obtain ⟨⟨n01, n02, n03, n04, n05⟩, ⟨n12, n13, n14, n15⟩, ⟨n23, n24, n25⟩, ⟨n34, n35⟩, n45⟩ := hd
  have self : (T.setIfInBounds d9 v)[d9]? = some v := by rw [Array.getElem?_setIfInBounds_self_of_lt (by rw [h.sz]; exact hlt)]
  have oth : ∀ e, e ≠ d9 → (T.setIfInBounds d9 v)[e]? = T[e]? := fun e he => Array.getElem?_setIfInBounds_ne (fun e2 => he e2.symm)
  refine ⟨by rw [Array.size_setIfInBounds]; exact h.sz, fun k k1 k2 k3 k4 k9 k10 => (oth k (by assumption)).trans (h.off k k1 k2 k3 k4 k9 k10), h.fr.same fr, ?_, ?_, ?_, ?_, ?_, ?_, ?_, ?_⟩
  · intro hl; have hl2 : l.getD 0 false = true := by (rcases upd hl with e | e; (focus omega); exact e)
    exact (oth d1 (by omega)).trans (h.v1 hl2)
  · intro hl; have hl2 : l.getD 1 false = true := by (rcases upd hl with e | e; (focus omega); exact e)
    obtain ⟨b0, b2, b3, e0, e2, e3, h1, h2⟩ := h.v2 hl2; exact ⟨b0, b2, b3, e0, e2, e3, (oth d2 (by omega)).trans h1, h2.keepN fr⟩
  · intro hl; have hl2 : l.getD 2 false = true := by (rcases upd hl with e | e; (focus omega); exact e)
    exact (oth d3 (by omega)).trans (h.v3 hl2)
  · intro hl; have hl2 : l.getD 3 false = true := by (rcases upd hl with e | e; (focus omega); exact e)
    obtain ⟨b4, b5, e4, e5, h1, h2⟩ := h.v4 hl2; exact ⟨b4, b5, e4, e5, (oth d4 (by omega)).trans h1, h2.keepN fr⟩
  · intro _; obtain ⟨g, o, rfl, h1, h2, h3⟩ := hv; exact ⟨g, o, self, h1, h2, h3, fun hx => by rcases upd hx with e | e; (focus omega); rw [hn6] at e; cases e⟩
  · intro hl; have hl2 : l.getD 5 false = true := by (rcases upd hl with e | e; (focus omega); exact e)
    obtain ⟨g, o, h1, h2, h3, h4, h5⟩ := h.v10 hl2; exact ⟨g, o, (oth d10 (by omega)).trans h1, h2, h3, fn_w fr h4, fun hx => (oth d4 (by omega)).trans (h5 (by rcases upd hx with e | e; (focus omega); exact e))⟩
  · intro hl; have := h.o6 (by rcases upd hl with e | e; (focus omega); exact e); exact ⟨keepL this.1, keepL this.2⟩
  · intro hl; have := h.o7 (by rcases upd hl with e | e; (focus omega); exact e); exact ⟨keepL this.1, keepL this.2⟩
theorem OwJ.s5 {V : World} {A fa pa : Array Value} {f : Fu} {p : Fm} {d1 d2 d3 d4 d9 d10 : Nat} {l : Array Bool} {T : Array Value} {w w' : World} {v : Value} (h : OwJ V A f p fa pa d1 d2 d3 d4 d9 d10 l T w) (hd : [d1, d2, d3, d4, d9, d10].Nodup) (hlt : d10 < A.size) (fr : Fr (fun _ => False) w w') (hv : ∃ g o, v = .pointer (some ⟨g, 0, none⟩) ∧ V.heap.size ≤ g ∧ o.size = 2 ∧ w'.heap[g]? = some (.cells o 64 (0, 0))) (hn7 : l.getD 7 false = false) : OwJ V A f p fa pa d1 d2 d3 d4 d9 d10 (l.setIfInBounds 5 true) (T.setIfInBounds d10 v) w' := by
  simp only [List.nodup_cons, List.mem_cons, not_or, List.not_mem_nil, not_false_iff, List.nodup_nil, and_true] at hd
  obtain ⟨⟨n01, n02, n03, n04, n05⟩, ⟨n12, n13, n14, n15⟩, ⟨n23, n24, n25⟩, ⟨n34, n35⟩, n45⟩ := hd
  have self : (T.setIfInBounds d10 v)[d10]? = some v := by rw [Array.getElem?_setIfInBounds_self_of_lt (by rw [h.sz]; exact hlt)]
  have oth : ∀ e, e ≠ d10 → (T.setIfInBounds d10 v)[e]? = T[e]? := fun e he => Array.getElem?_setIfInBounds_ne (fun e2 => he e2.symm)
  refine ⟨by rw [Array.size_setIfInBounds]; exact h.sz, fun k k1 k2 k3 k4 k9 k10 => (oth k (by assumption)).trans (h.off k k1 k2 k3 k4 k9 k10), h.fr.same fr, ?_, ?_, ?_, ?_, ?_, ?_, ?_, ?_⟩
  · intro hl; have hl2 : l.getD 0 false = true := by (rcases upd hl with e | e; (focus omega); exact e)
    exact (oth d1 (by omega)).trans (h.v1 hl2)
  · intro hl; have hl2 : l.getD 1 false = true := by (rcases upd hl with e | e; (focus omega); exact e)
    obtain ⟨b0, b2, b3, e0, e2, e3, h1, h2⟩ := h.v2 hl2; exact ⟨b0, b2, b3, e0, e2, e3, (oth d2 (by omega)).trans h1, h2.keepN fr⟩
  · intro hl; have hl2 : l.getD 2 false = true := by (rcases upd hl with e | e; (focus omega); exact e)
    exact (oth d3 (by omega)).trans (h.v3 hl2)
  · intro hl; have hl2 : l.getD 3 false = true := by (rcases upd hl with e | e; (focus omega); exact e)
    obtain ⟨b4, b5, e4, e5, h1, h2⟩ := h.v4 hl2; exact ⟨b4, b5, e4, e5, (oth d4 (by omega)).trans h1, h2.keepN fr⟩
  · intro hl; have hl2 : l.getD 4 false = true := by (rcases upd hl with e | e; (focus omega); exact e)
    obtain ⟨g, o, h1, h2, h3, h4, h5⟩ := h.v9 hl2; exact ⟨g, o, (oth d9 (by omega)).trans h1, h2, h3, fn_w fr h4, fun hx => (oth d2 (by omega)).trans (h5 (by rcases upd hx with e | e; (focus omega); exact e))⟩
  · intro _; obtain ⟨g, o, rfl, h1, h2, h3⟩ := hv; exact ⟨g, o, self, h1, h2, h3, fun hx => by rcases upd hx with e | e; (focus omega); rw [hn7] at e; cases e⟩
  · intro hl; have := h.o6 (by rcases upd hl with e | e; (focus omega); exact e); exact ⟨keepL this.1, keepL this.2⟩
  · intro hl; have := h.o7 (by rcases upd hl with e | e; (focus omega); exact e); exact ⟨keepL this.1, keepL this.2⟩
theorem OwJ.s6 {V : World} {A fa pa : Array Value} {f : Fu} {p : Fm} {d1 d2 d3 d4 d9 d10 : Nat} {l : Array Bool} {T : Array Value} {w : World} {g : Nat} {o cs : Array Value} (h : OwJ V A f p fa pa d1 d2 d3 d4 d9 d10 l T w) (ho : w.heap[g]? = some (.cells o 46 (0, 0))) (hg : T[d9]? = some (.pointer (some ⟨g, 0, none⟩))) (hV : V.heap.size ≤ g) (hc : cs.size = 4) (hT : T[d2]? = some (.agg cs)) (l1 : l.getD 1 false = true) (l4 : l.getD 4 false = true) : OwJ V A f p fa pa d1 d2 d3 d4 d9 d10 (l.setIfInBounds 6 true) T (w.setRow g cs) := by
  have f1 := Fr.setRow w g cs
  refine ⟨h.sz, h.off, h.fr.over f1 (fun k e => by omega), ?_, ?_, ?_, ?_, ?_, ?_, fun hl => ⟨keepL l1, keepL l4⟩, fun hl => have q := h.o7 (by rcases upd hl with e | e; (focus omega); exact e); ⟨keepL q.1, keepL q.2⟩⟩
  · intro hl; exact h.v1 (by rcases upd hl with e | e; (focus omega); exact e)
  · intro hl; obtain ⟨b0, b2, b3, e0, e2, e3, h1, h2⟩ := h.v2 (by rcases upd hl with e | e; (focus omega); exact e); exact ⟨b0, b2, b3, e0, e2, e3, h1, h2.box ho t_ne.1 t_ne.2.1 f1⟩
  · intro hl; exact h.v3 (by rcases upd hl with e | e; (focus omega); exact e)
  · intro hl; obtain ⟨b4, b5, e4, e5, h1, h2⟩ := h.v4 (by rcases upd hl with e | e; (focus omega); exact e); exact ⟨b4, b5, e4, e5, h1, h2.box ho t_ne.1 t_ne.2.2.1 f1⟩
  · intro hl; exact ⟨g, cs, hg, hV, hc, setRow_heap w g _ cs _ _ ho, fun _ => hT⟩
  · intro hl; obtain ⟨g2, o2, h1, h2, h3, h4, h5⟩ := h.v10 (by rcases upd hl with e | e; (focus omega); exact e)
    refine ⟨g2, o2, h1, h2, h3, (setRow_other w g g2 cs ?_).trans h4, fun hx => h5 (by rcases upd hx with e | e; (focus omega); exact e)⟩
    rintro rfl
    rw [ho] at h4
    simp only [Option.some.injEq, Obj.cells.injEq] at h4
    exact absurd h4.2.1 (by decide)
theorem OwJ.s7 {V : World} {A fa pa : Array Value} {f : Fu} {p : Fm} {d1 d2 d3 d4 d9 d10 : Nat} {l : Array Bool} {T : Array Value} {w : World} {g : Nat} {o cs : Array Value} (h : OwJ V A f p fa pa d1 d2 d3 d4 d9 d10 l T w) (ho : w.heap[g]? = some (.cells o 64 (0, 0))) (hg : T[d10]? = some (.pointer (some ⟨g, 0, none⟩))) (hV : V.heap.size ≤ g) (hc : cs.size = 2) (hT : T[d4]? = some (.agg cs)) (l3 : l.getD 3 false = true) (l5 : l.getD 5 false = true) : OwJ V A f p fa pa d1 d2 d3 d4 d9 d10 (l.setIfInBounds 7 true) T (w.setRow g cs) := by
  have f1 := Fr.setRow w g cs
  refine ⟨h.sz, h.off, h.fr.over f1 (fun k e => by omega), ?_, ?_, ?_, ?_, ?_, ?_, fun hl => have q := h.o6 (by rcases upd hl with e | e; (focus omega); exact e); ⟨keepL q.1, keepL q.2⟩, fun hl => ⟨keepL l3, keepL l5⟩⟩
  · intro hl; exact h.v1 (by rcases upd hl with e | e; (focus omega); exact e)
  · intro hl; obtain ⟨b0, b2, b3, e0, e2, e3, h1, h2⟩ := h.v2 (by rcases upd hl with e | e; (focus omega); exact e); exact ⟨b0, b2, b3, e0, e2, e3, h1, h2.box ho int_fr t_ne.2.2.2.1 f1⟩
  · intro hl; exact h.v3 (by rcases upd hl with e | e; (focus omega); exact e)
  · intro hl; obtain ⟨b4, b5, e4, e5, h1, h2⟩ := h.v4 (by rcases upd hl with e | e; (focus omega); exact e); exact ⟨b4, b5, e4, e5, h1, h2.box ho int_fr t_ne.2.2.2.2 f1⟩
  · intro hl; obtain ⟨g2, o2, h1, h2, h3, h4, h5⟩ := h.v9 (by rcases upd hl with e | e; (focus omega); exact e)
    refine ⟨g2, o2, h1, h2, h3, (setRow_other w g g2 cs ?_).trans h4, fun hx => h5 (by rcases upd hx with e | e; (focus omega); exact e)⟩
    rintro rfl
    rw [ho] at h4
    simp only [Option.some.injEq, Obj.cells.injEq] at h4
    exact absurd h4.2.1 (by decide)
  · intro hl; exact ⟨g, cs, hg, hV, hc, setRow_heap w g _ cs _ _ ho, fun _ => hT⟩
abbrev zFa : Array Value := #[.slice none 0 0, ci 0, .slice none 0 0, .slice none 0 0]
abbrev zPa : Array Value := #[.slice none 0 0, .slice none 0 0]
end Go.Proofs.YtoiglopilpoafaaGreatDoor.Cd

namespace Go.Proofs.YtoiglopilpoafaaGreatDoor.Cd
open Go.RowKit Ty
set_option linter.unusedSimpArgs false
set_option linter.unusedVariables false

abbrev Tb := List (Nat × Nat × Value)
abbrev setL (tbl : Tb) (A : Array Value) : Array Value := tbl.foldl (fun A e => A.setIfInBounds e.2.1 e.2.2) A
theorem setL_size : ∀ (tbl : Tb) (A : Array Value), (setL tbl A).size = A.size
  | [], A => rfl
  | a :: r, A => by
    show (setL r (A.setIfInBounds a.2.1 a.2.2)).size = A.size
    rw [setL_size r, Array.size_setIfInBounds]
theorem setL_miss : ∀ (tbl : Tb) (A : Array Value) (k : Nat), (∀ e ∈ tbl, e.2.1 ≠ k) → (setL tbl A)[k]? = A[k]?
  | [], A, k, h => rfl
  | a :: r, A, k, h => by
    show (setL r (A.setIfInBounds a.2.1 a.2.2))[k]? = A[k]?
    rw [setL_miss r _ k (fun e he => h e (List.mem_cons_of_mem _ he)), Array.getElem?_setIfInBounds_ne (h a List.mem_cons_self)]
theorem setL_hit : ∀ (tbl : Tb) (A : Array Value) (e : Nat × Nat × Value), e ∈ tbl → (∀ e ∈ tbl, e.2.1 < A.size) → (∀ a ∈ tbl, ∀ b ∈ tbl, a.2.1 = b.2.1 → a = b) → (setL tbl A)[e.2.1]? = some e.2.2
  | [], A, e, h, _, _ => by cases h
  | a :: r, A, e, h, h1, h2 => by
    show (setL r (A.setIfInBounds a.2.1 a.2.2))[e.2.1]? = some e.2.2
    by_cases hr : e ∈ r
    · exact setL_hit r _ e hr (fun b hb => by rw [Array.size_setIfInBounds]; exact h1 b (List.mem_cons_of_mem _ hb)) (fun b hb c hc => h2 b (List.mem_cons_of_mem _ hb) c (List.mem_cons_of_mem _ hc))
    · have he : e = a := by
        rcases List.mem_cons.1 h with e1 | e1
        · exact e1
        · exact absurd e1 hr
      subst he
      rw [setL_miss r _ _ (fun b hb e1 => hr (by rw [← h2 b (List.mem_cons_of_mem _ hb) e List.mem_cons_self e1]; exact hb)), Array.getElem?_setIfInBounds_self_of_lt (h1 e List.mem_cons_self)]
/-- Each row of the table is where it says. -/
def TbI (tbl : Tb) (A : Array Value) : Prop := ∀ e ∈ tbl, e.2.1 = 63 + e.1 ∧ e.1 < 11 ∧ tbl[e.1]? = some e ∧ e.2.1 < A.size
theorem TbI.eq {tbl : Tb} {A : Array Value} (h : TbI tbl A) {a b : Nat × Nat × Value} (ha : a ∈ tbl) (hb : b ∈ tbl) (e : a.1 = b.1) : a = b := by
  have h1 := (h a ha).2.2.1
  rw [e, (h b hb).2.2.1] at h1
  exact (Option.some.inj h1).symm
theorem updN {l : Array Bool} {i k : Nat} (hk : k ≠ i) : (l.setIfInBounds i true).getD k false = l.getD k false := by
  rw [Array.getD_eq_getD_getElem?, Array.getElem?_setIfInBounds_ne (fun e2 => hk e2.symm), ← Array.getD_eq_getD_getElem?]
abbrev fdT (v0 v1 v2 v4 v5 x0 x1 : Value) (G2 b3 o3 n c3 j gs : Nat) (i : In) : Tb := [(0, 63, .agg #[v0, v1, v2, .slice (some ⟨b3, o3, none⟩) n c3]), (1, 64, .agg #[v4, v5]), (2, 65, .pointer (some ⟨G2, 3, none⟩)), (3, 66, .slice (some ⟨b3, o3, none⟩) n c3), (4, 67, .int .i64 (j : Int)), (5, 68, .pointer (some ⟨b3, o3 + j * 4, none⟩)), (6, 69, inV i), (7, 70, .slice (some ⟨gs, 0, none⟩) n n), (8, 71, .int .i64 (j : Int)), (9, 72, .pointer (some ⟨gs, j * 2, none⟩)), (10, 73, .agg #[x0, x1])]
end Go.Proofs.YtoiglopilpoafaaGreatDoor.Cd
