/- The laws' region 'own, q := fn(f), frame(p)', whatever its order. -/
import Derived.Test.YtphpmaimgndjmaaDoorCdLa
import Derived.Test.YtphpmaimgndjmaaDoorCdIv
namespace Go.Proofs.YtphpmaimgndjmaaDoor.Cd
open Go.RowKit Ty
set_option linter.unusedSimpArgs false
set_option linter.unusedVariables false

theorem wpOp_at {P : Program} {ops : Array Oper} {Q : Exit → Act → World → Prop} {i : Nat} {K : Act → World → Prop} {a : Act} {w : World} (o : Oper) (ho : ops[i]? = some o) (hg : o.guard = none) (h : ∀ K' : Act → World → Prop, (∀ a w, K a w → K' a w) → o.wp P a w K' Q) : wpOp P ops Q i K a w := by
  unfold wpOp
  rw [ho]
  simp only []
  rw [if_pos (by simp [Region.wanted, hg])]
  exact Or.inl (h K fun _ _ h => h)
theorem eval_at {d : List Deferred} {T : Array Value} {s : Nat} {v : Value} (h : T[s]? = some v) : ({ tmps := T, defers := d } : Act).eval (.tmp s) = v := by
  simp only [Act.eval, Array.getD_eq_getD_getElem?, h, Option.getD_some]
theorem upd {l : Array Bool} {i k : Nat} (h : (l.setIfInBounds i true).getD k false = true) : k = i ∨ l.getD k false = true := by
  by_cases e : k = i
  · exact Or.inl e
  · rw [Array.getD_eq_getD_getElem?, Array.getElem?_setIfInBounds_ne (fun e2 => e e2.symm), ← Array.getD_eq_getD_getElem?] at h
    exact Or.inr h
theorem fn_w {w w' : World} {g : Nat} (h : Fr (fun _ => False) w w') {o : Obj} (hg : w.heap[g]? = some o) : w'.heap[g]? = some o := h.heap hg (fun f => f)
/-- What stands once these operations have come up. -/
structure OwJ (V : World) (A : Array Value) (f : Fu) (p : Fm) (fa pa : Array Value) (d1 d2 d3 d4 d9 d10 : Nat) (l : Array Bool) (T : Array Value) (w : World) : Prop where
  sz : T.size = A.size
  off : ∀ k, k ≠ d1 → k ≠ d2 → k ≠ d3 → k ≠ d4 → k ≠ d9 → k ≠ d10 → T[k]? = A[k]?
  fr : Fr (fun _ => False) V w
  v1 : l.getD 0 false = true → T[d1]? = some (.agg fa)
  v2 : l.getD 1 false = true → ∃ b0 b2 b3 e0 e2 e3, T[d2]? = some (.agg (fnV f b0 b2 b3 e0 e2 e3)) ∧ FnO w V.heap.size (.agg (fnV f b0 b2 b3 e0 e2 e3)) f
  v3 : l.getD 2 false = true → T[d3]? = some (.agg pa)
  v4 : l.getD 3 false = true → ∃ b4 b5 e4 e5, T[d4]? = some (.agg (fmV p b4 b5 e4 e5)) ∧ FmO w V.heap.size (.agg (fmV p b4 b5 e4 e5)) p
  v9 : l.getD 4 false = true → ∃ g o, T[d9]? = some (.pointer (some ⟨g, 0, none⟩)) ∧ V.heap.size ≤ g ∧ o.size = 4 ∧ w.heap[g]? = some (.cells o 35 (0, 0)) ∧ (l.getD 6 false = true → T[d2]? = some (.agg o))
  v10 : l.getD 5 false = true → ∃ g o, T[d10]? = some (.pointer (some ⟨g, 0, none⟩)) ∧ V.heap.size ≤ g ∧ o.size = 2 ∧ w.heap[g]? = some (.cells o 39 (0, 0)) ∧ (l.getD 7 false = true → T[d4]? = some (.agg o))
  o6 : l.getD 6 false = true → l.getD 1 false = true ∧ l.getD 4 false = true
  o7 : l.getD 7 false = true → l.getD 3 false = true ∧ l.getD 5 false = true
theorem keepL {l : Array Bool} {i k : Nat} (h : l.getD k false = true) : (l.setIfInBounds i true).getD k false = true := by
  by_cases e : k = i
  · subst e
    by_cases hk : k < l.size
    · rw [Array.getD_eq_getD_getElem?, Array.getElem?_setIfInBounds_self_of_lt hk]; rfl
    · rw [Array.getD_eq_getD_getElem?, Array.getElem?_eq_none (by omega)] at h; cases h
  · rw [Array.getD_eq_getD_getElem?, Array.getElem?_setIfInBounds_ne (fun e2 => e e2.symm), ← Array.getD_eq_getD_getElem?]; exact h
theorem not_l {l : Array Bool} {k : Nat} (h : l.getD k true = false) : l.getD k false = false := by
  by_cases hk : k < l.size
  · rw [Array.getD_eq_getD_getElem?, Array.getElem?_eq_getElem hk] at h ⊢; exact h
  · rw [Array.getD_eq_getD_getElem?, Array.getElem?_eq_none (by omega)] at h; cases h
theorem OwJ.s0 {V : World} {A fa pa : Array Value} {f : Fu} {p : Fm} {d1 d2 d3 d4 d9 d10 : Nat} {l : Array Bool} {T : Array Value} {w w' : World} {v : Value} (h : OwJ V A f p fa pa d1 d2 d3 d4 d9 d10 l T w) (hd : [d1, d2, d3, d4, d9, d10].Nodup) (hlt : d1 < A.size) (fr : Fr (fun _ => False) w w') (hv : v = .agg fa) : OwJ V A f p fa pa d1 d2 d3 d4 d9 d10 (l.setIfInBounds 0 true) (T.setIfInBounds d1 v) w' := by
  simp only [List.nodup_cons, List.mem_cons, not_or, List.not_mem_nil, not_false_iff, List.nodup_nil, and_true] at hd
  obtain ⟨⟨n01, n02, n03, n04, n05⟩, ⟨n12, n13, n14, n15⟩, ⟨n23, n24, n25⟩, ⟨n34, n35⟩, n45⟩ := hd
  have self : (T.setIfInBounds d1 v)[d1]? = some v := by rw [Array.getElem?_setIfInBounds_self_of_lt (by rw [h.sz]; exact hlt)]
  have oth : ∀ e, e ≠ d1 → (T.setIfInBounds d1 v)[e]? = T[e]? := fun e he => Array.getElem?_setIfInBounds_ne (fun e2 => he e2.symm)
  refine ⟨by rw [Array.size_setIfInBounds]; exact h.sz, fun k k1 k2 k3 k4 k9 k10 => (oth k (by assumption)).trans (h.off k k1 k2 k3 k4 k9 k10), h.fr.same fr, ?_, ?_, ?_, ?_, ?_, ?_, ?_, ?_⟩
  · intro _; rw [self, hv]
  · intro hl; have hl2 : l.getD 1 false = true := by (rcases upd hl with e | e; (focus omega); exact e)
    obtain ⟨b0, b2, b3, e0, e2, e3, h1, h2⟩ := h.v2 hl2; exact ⟨b0, b2, b3, e0, e2, e3, (oth d2 (by omega)).trans h1, h2.keepN fr⟩
  · intro hl; have hl2 : l.getD 2 false = true := by (rcases upd hl with e | e; (focus omega); exact e)
    exact (oth d3 (by omega)).trans (h.v3 hl2)
  · intro hl; have hl2 : l.getD 3 false = true := by (rcases upd hl with e | e; (focus omega); exact e)
    obtain ⟨b4, b5, e4, e5, h1, h2⟩ := h.v4 hl2; exact ⟨b4, b5, e4, e5, (oth d4 (by omega)).trans h1, h2.keepN fr⟩
  · intro hl; have hl2 : l.getD 4 false = true := by (rcases upd hl with e | e; (focus omega); exact e)
    obtain ⟨g, o, h1, h2, h3, h4, h5⟩ := h.v9 hl2; exact ⟨g, o, (oth d9 (by omega)).trans h1, h2, h3, fn_w fr h4, fun hx => (oth d2 (by omega)).trans (h5 (by rcases upd hx with e | e; (focus omega); exact e))⟩
  · intro hl; have hl2 : l.getD 5 false = true := by (rcases upd hl with e | e; (focus omega); exact e)
    obtain ⟨g, o, h1, h2, h3, h4, h5⟩ := h.v10 hl2; exact ⟨g, o, (oth d10 (by omega)).trans h1, h2, h3, fn_w fr h4, fun hx => (oth d4 (by omega)).trans (h5 (by rcases upd hx with e | e; (focus omega); exact e))⟩
  · intro hl; have := h.o6 (by rcases upd hl with e | e; (focus omega); exact e); exact ⟨keepL this.1, keepL this.2⟩
  · intro hl; have := h.o7 (by rcases upd hl with e | e; (focus omega); exact e); exact ⟨keepL this.1, keepL this.2⟩
theorem OwJ.s1 {V : World} {A fa pa : Array Value} {f : Fu} {p : Fm} {d1 d2 d3 d4 d9 d10 : Nat} {l : Array Bool} {T : Array Value} {w w' : World} {v : Value} (h : OwJ V A f p fa pa d1 d2 d3 d4 d9 d10 l T w) (hd : [d1, d2, d3, d4, d9, d10].Nodup) (hlt : d2 < A.size) (fr : Fr (fun _ => False) w w') (hv : ∃ b0 b2 b3 e0 e2 e3, v = .agg (fnV f b0 b2 b3 e0 e2 e3) ∧ FnO w' V.heap.size (.agg (fnV f b0 b2 b3 e0 e2 e3)) f) (hn6 : l.getD 6 false = false) : OwJ V A f p fa pa d1 d2 d3 d4 d9 d10 (l.setIfInBounds 1 true) (T.setIfInBounds d2 v) w' := by
  simp only [List.nodup_cons, List.mem_cons, not_or, List.not_mem_nil, not_false_iff, List.nodup_nil, and_true] at hd
  obtain ⟨⟨n01, n02, n03, n04, n05⟩, ⟨n12, n13, n14, n15⟩, ⟨n23, n24, n25⟩, ⟨n34, n35⟩, n45⟩ := hd
  have self : (T.setIfInBounds d2 v)[d2]? = some v := by rw [Array.getElem?_setIfInBounds_self_of_lt (by rw [h.sz]; exact hlt)]
  have oth : ∀ e, e ≠ d2 → (T.setIfInBounds d2 v)[e]? = T[e]? := fun e he => Array.getElem?_setIfInBounds_ne (fun e2 => he e2.symm)
  refine ⟨by rw [Array.size_setIfInBounds]; exact h.sz, fun k k1 k2 k3 k4 k9 k10 => (oth k (by assumption)).trans (h.off k k1 k2 k3 k4 k9 k10), h.fr.same fr, ?_, ?_, ?_, ?_, ?_, ?_, ?_, ?_⟩
  · intro hl; have hl2 : l.getD 0 false = true := by (rcases upd hl with e | e; (focus omega); exact e)
    exact (oth d1 (by omega)).trans (h.v1 hl2)
  · intro _; obtain ⟨b0, b2, b3, e0, e2, e3, rfl, hF⟩ := hv; exact ⟨b0, b2, b3, e0, e2, e3, self, hF⟩
  · intro hl; have hl2 : l.getD 2 false = true := by (rcases upd hl with e | e; (focus omega); exact e)
    exact (oth d3 (by omega)).trans (h.v3 hl2)
  · intro hl; have hl2 : l.getD 3 false = true := by (rcases upd hl with e | e; (focus omega); exact e)
    obtain ⟨b4, b5, e4, e5, h1, h2⟩ := h.v4 hl2; exact ⟨b4, b5, e4, e5, (oth d4 (by omega)).trans h1, h2.keepN fr⟩
  · intro hl; have hl2 : l.getD 4 false = true := by (rcases upd hl with e | e; (focus omega); exact e)
    obtain ⟨g, o, h1, h2, h3, h4, h5⟩ := h.v9 hl2; exact ⟨g, o, (oth d9 (by omega)).trans h1, h2, h3, fn_w fr h4, fun hx => by rcases upd hx with e | e; (focus omega); rw [hn6] at e; cases e⟩
  · intro hl; have hl2 : l.getD 5 false = true := by (rcases upd hl with e | e; (focus omega); exact e)
    obtain ⟨g, o, h1, h2, h3, h4, h5⟩ := h.v10 hl2; exact ⟨g, o, (oth d10 (by omega)).trans h1, h2, h3, fn_w fr h4, fun hx => (oth d4 (by omega)).trans (h5 (by rcases upd hx with e | e; (focus omega); exact e))⟩
  · intro hl; have := h.o6 (by rcases upd hl with e | e; (focus omega); exact e); exact ⟨keepL this.1, keepL this.2⟩
  · intro hl; have := h.o7 (by rcases upd hl with e | e; (focus omega); exact e); exact ⟨keepL this.1, keepL this.2⟩
theorem OwJ.s2 {V : World} {A fa pa : Array Value} {f : Fu} {p : Fm} {d1 d2 d3 d4 d9 d10 : Nat} {l : Array Bool} {T : Array Value} {w w' : World} {v : Value} (h : OwJ V A f p fa pa d1 d2 d3 d4 d9 d10 l T w) (hd : [d1, d2, d3, d4, d9, d10].Nodup) (hlt : d3 < A.size) (fr : Fr (fun _ => False) w w') (hv : v = .agg pa) : OwJ V A f p fa pa d1 d2 d3 d4 d9 d10 (l.setIfInBounds 2 true) (T.setIfInBounds d3 v) w' := by
  simp only [List.nodup_cons, List.mem_cons, not_or, List.not_mem_nil, not_false_iff, List.nodup_nil, and_true] at hd
  obtain ⟨⟨n01, n02, n03, n04, n05⟩, ⟨n12, n13, n14, n15⟩, ⟨n23, n24, n25⟩, ⟨n34, n35⟩, n45⟩ := hd
  have self : (T.setIfInBounds d3 v)[d3]? = some v := by rw [Array.getElem?_setIfInBounds_self_of_lt (by rw [h.sz]; exact hlt)]
  have oth : ∀ e, e ≠ d3 → (T.setIfInBounds d3 v)[e]? = T[e]? := fun e he => Array.getElem?_setIfInBounds_ne (fun e2 => he e2.symm)
  refine ⟨by rw [Array.size_setIfInBounds]; exact h.sz, fun k k1 k2 k3 k4 k9 k10 => (oth k (by assumption)).trans (h.off k k1 k2 k3 k4 k9 k10), h.fr.same fr, ?_, ?_, ?_, ?_, ?_, ?_, ?_, ?_⟩
  · intro hl; have hl2 : l.getD 0 false = true := by (rcases upd hl with e | e; (focus omega); exact e)
    exact (oth d1 (by omega)).trans (h.v1 hl2)
  · intro hl; have hl2 : l.getD 1 false = true := by (rcases upd hl with e | e; (focus omega); exact e)
    obtain ⟨b0, b2, b3, e0, e2, e3, h1, h2⟩ := h.v2 hl2; exact ⟨b0, b2, b3, e0, e2, e3, (oth d2 (by omega)).trans h1, h2.keepN fr⟩
  · intro _; rw [self, hv]
  · intro hl; have hl2 : l.getD 3 false = true := by (rcases upd hl with e | e; (focus omega); exact e)
    obtain ⟨b4, b5, e4, e5, h1, h2⟩ := h.v4 hl2; exact ⟨b4, b5, e4, e5, (oth d4 (by omega)).trans h1, h2.keepN fr⟩
  · intro hl; have hl2 : l.getD 4 false = true := by (rcases upd hl with e | e; (focus omega); exact e)
    obtain ⟨g, o, h1, h2, h3, h4, h5⟩ := h.v9 hl2; exact ⟨g, o, (oth d9 (by omega)).trans h1, h2, h3, fn_w fr h4, fun hx => (oth d2 (by omega)).trans (h5 (by rcases upd hx with e | e; (focus omega); exact e))⟩
  · intro hl; have hl2 : l.getD 5 false = true := by (rcases upd hl with e | e; (focus omega); exact e)
    obtain ⟨g, o, h1, h2, h3, h4, h5⟩ := h.v10 hl2; exact ⟨g, o, (oth d10 (by omega)).trans h1, h2, h3, fn_w fr h4, fun hx => (oth d4 (by omega)).trans (h5 (by rcases upd hx with e | e; (focus omega); exact e))⟩
  · intro hl; have := h.o6 (by rcases upd hl with e | e; (focus omega); exact e); exact ⟨keepL this.1, keepL this.2⟩
  · intro hl; have := h.o7 (by rcases upd hl with e | e; (focus omega); exact e); exact ⟨keepL this.1, keepL this.2⟩
theorem OwJ.s3 {V : World} {A fa pa : Array Value} {f : Fu} {p : Fm} {d1 d2 d3 d4 d9 d10 : Nat} {l : Array Bool} {T : Array Value} {w w' : World} {v : Value} (h : OwJ V A f p fa pa d1 d2 d3 d4 d9 d10 l T w) (hd : [d1, d2, d3, d4, d9, d10].Nodup) (hlt : d4 < A.size) (fr : Fr (fun _ => False) w w') (hv : ∃ b4 b5 e4 e5, v = .agg (fmV p b4 b5 e4 e5) ∧ FmO w' V.heap.size (.agg (fmV p b4 b5 e4 e5)) p) (hn7 : l.getD 7 false = false) : OwJ V A f p fa pa d1 d2 d3 d4 d9 d10 (l.setIfInBounds 3 true) (T.setIfInBounds d4 v) w' := by
  simp only [List.nodup_cons, List.mem_cons, not_or, List.not_mem_nil, not_false_iff, List.nodup_nil, and_true] at hd
  obtain ⟨⟨n01, n02, n03, n04, n05⟩, ⟨n12, n13, n14, n15⟩, ⟨n23, n24, n25⟩, ⟨n34, n35⟩, n45⟩ := hd
  have self : (T.setIfInBounds d4 v)[d4]? = some v := by rw [Array.getElem?_setIfInBounds_self_of_lt (by rw [h.sz]; exact hlt)]
  have oth : ∀ e, e ≠ d4 → (T.setIfInBounds d4 v)[e]? = T[e]? := fun e he => Array.getElem?_setIfInBounds_ne (fun e2 => he e2.symm)
  refine ⟨by rw [Array.size_setIfInBounds]; exact h.sz, fun k k1 k2 k3 k4 k9 k10 => (oth k (by assumption)).trans (h.off k k1 k2 k3 k4 k9 k10), h.fr.same fr, ?_, ?_, ?_, ?_, ?_, ?_, ?_, ?_⟩
  · intro hl; have hl2 : l.getD 0 false = true := by (rcases upd hl with e | e; (focus omega); exact e)
    exact (oth d1 (by omega)).trans (h.v1 hl2)
  · intro hl; have hl2 : l.getD 1 false = true := by (rcases upd hl with e | e; (focus omega); exact e)
    obtain ⟨b0, b2, b3, e0, e2, e3, h1, h2⟩ := h.v2 hl2; exact ⟨b0, b2, b3, e0, e2, e3, (oth d2 (by omega)).trans h1, h2.keepN fr⟩
  · intro hl; have hl2 : l.getD 2 false = true := by (rcases upd hl with e | e; (focus omega); exact e)
    exact (oth d3 (by omega)).trans (h.v3 hl2)
  · intro _; obtain ⟨b4, b5, e4, e5, rfl, hF⟩ := hv; exact ⟨b4, b5, e4, e5, self, hF⟩
  · intro hl; have hl2 : l.getD 4 false = true := by (rcases upd hl with e | e; (focus omega); exact e)
    obtain ⟨g, o, h1, h2, h3, h4, h5⟩ := h.v9 hl2; exact ⟨g, o, (oth d9 (by omega)).trans h1, h2, h3, fn_w fr h4, fun hx => (oth d2 (by omega)).trans (h5 (by rcases upd hx with e | e; (focus omega); exact e))⟩
  · intro hl; have hl2 : l.getD 5 false = true := by (rcases upd hl with e | e; (focus omega); exact e)
    obtain ⟨g, o, h1, h2, h3, h4, h5⟩ := h.v10 hl2; exact ⟨g, o, (oth d10 (by omega)).trans h1, h2, h3, fn_w fr h4, fun hx => by rcases upd hx with e | e; (focus omega); rw [hn7] at e; cases e⟩
  · intro hl; have := h.o6 (by rcases upd hl with e | e; (focus omega); exact e); exact ⟨keepL this.1, keepL this.2⟩
  · intro hl; have := h.o7 (by rcases upd hl with e | e; (focus omega); exact e); exact ⟨keepL this.1, keepL this.2⟩
theorem OwJ.s4 {V : World} {A fa pa : Array Value} {f : Fu} {p : Fm} {d1 d2 d3 d4 d9 d10 : Nat} {l : Array Bool} {T : Array Value} {w w' : World} {v : Value} (h : OwJ V A f p fa pa d1 d2 d3 d4 d9 d10 l T w) (hd : [d1, d2, d3, d4, d9, d10].Nodup) (hlt : d9 < A.size) (fr : Fr (fun _ => False) w w') (hv : ∃ g o, v = .pointer (some ⟨g, 0, none⟩) ∧ V.heap.size ≤ g ∧ o.size = 4 ∧ w'.heap[g]? = some (.cells o 35 (0, 0))) (hn6 : l.getD 6 false = false) : OwJ V A f p fa pa d1 d2 d3 d4 d9 d10 (l.setIfInBounds 4 true) (T.setIfInBounds d9 v) w' := by
  simp only [List.nodup_cons, List.mem_cons, not_or, List.not_mem_nil, not_false_iff, List.nodup_nil, and_true] at hd
  obtain ⟨⟨n01, n02, n03, n04, n05⟩, ⟨n12, n13, n14, n15⟩, ⟨n23, n24, n25⟩, ⟨n34, n35⟩, n45⟩ := hd
  have self : (T.setIfInBounds d9 v)[d9]? = some v := by rw [Array.getElem?_setIfInBounds_self_of_lt (by rw [h.sz]; exact hlt)]
  have oth : ∀ e, e ≠ d9 → (T.setIfInBounds d9 v)[e]? = T[e]? := fun e he => Array.getElem?_setIfInBounds_ne (fun e2 => he e2.symm)
  refine ⟨by rw [Array.size_setIfInBounds]; exact h.sz, fun k k1 k2 k3 k4 k9 k10 => (oth k (by assumption)).trans (h.off k k1 k2 k3 k4 k9 k10), h.fr.same fr, ?_, ?_, ?_, ?_, ?_, ?_, ?_, ?_⟩
  · intro hl; have hl2 : l.getD 0 false = true := by (rcases upd hl with e | e; (focus omega); exact e)
    exact (oth d1 (by omega)).trans (h.v1 hl2)
  · intro hl; have hl2 : l.getD 1 false = true := by (rcases upd hl with e | e; (focus omega); exact e)
    obtain ⟨b0, b2, b3, e0, e2, e3, h1, h2⟩ := h.v2 hl2; exact ⟨b0, b2, b3, e0, e2, e3, (oth d2 (by omega)).trans h1, h2.keepN fr⟩
  · intro hl; have hl2 : l.getD 2 false = true := by (rcases upd hl with e | e; (focus omega); exact e)
    exact (oth d3 (by omega)).trans (h.v3 hl2)
  · intro hl; have hl2 : l.getD 3 false = true := by (rcases upd hl with e | e; (focus omega); exact e)
    obtain ⟨b4, b5, e4, e5, h1, h2⟩ := h.v4 hl2; exact ⟨b4, b5, e4, e5, (oth d4 (by omega)).trans h1, h2.keepN fr⟩
  · intro _; obtain ⟨g, o, rfl, h1, h2, h3⟩ := hv; exact ⟨g, o, self, h1, h2, h3, fun hx => by rcases upd hx with e | e; (focus omega); rw [hn6] at e; cases e⟩
  · intro hl; have hl2 : l.getD 5 false = true := by (rcases upd hl with e | e; (focus omega); exact e)
    obtain ⟨g, o, h1, h2, h3, h4, h5⟩ := h.v10 hl2; exact ⟨g, o, (oth d10 (by omega)).trans h1, h2, h3, fn_w fr h4, fun hx => (oth d4 (by omega)).trans (h5 (by rcases upd hx with e | e; (focus omega); exact e))⟩
  · intro hl; have := h.o6 (by rcases upd hl with e | e; (focus omega); exact e); exact ⟨keepL this.1, keepL this.2⟩
  · intro hl; have := h.o7 (by rcases upd hl with e | e; (focus omega); exact e); exact ⟨keepL this.1, keepL this.2⟩
theorem OwJ.s5 {V : World} {A fa pa : Array Value} {f : Fu} {p : Fm} {d1 d2 d3 d4 d9 d10 : Nat} {l : Array Bool} {T : Array Value} {w w' : World} {v : Value} (h : OwJ V A f p fa pa d1 d2 d3 d4 d9 d10 l T w) (hd : [d1, d2, d3, d4, d9, d10].Nodup) (hlt : d10 < A.size) (fr : Fr (fun _ => False) w w') (hv : ∃ g o, v = .pointer (some ⟨g, 0, none⟩) ∧ V.heap.size ≤ g ∧ o.size = 2 ∧ w'.heap[g]? = some (.cells o 39 (0, 0))) (hn7 : l.getD 7 false = false) : OwJ V A f p fa pa d1 d2 d3 d4 d9 d10 (l.setIfInBounds 5 true) (T.setIfInBounds d10 v) w' := by
  simp only [List.nodup_cons, List.mem_cons, not_or, List.not_mem_nil, not_false_iff, List.nodup_nil, and_true] at hd
  obtain ⟨⟨n01, n02, n03, n04, n05⟩, ⟨n12, n13, n14, n15⟩, ⟨n23, n24, n25⟩, ⟨n34, n35⟩, n45⟩ := hd
  have self : (T.setIfInBounds d10 v)[d10]? = some v := by rw [Array.getElem?_setIfInBounds_self_of_lt (by rw [h.sz]; exact hlt)]
  have oth : ∀ e, e ≠ d10 → (T.setIfInBounds d10 v)[e]? = T[e]? := fun e he => Array.getElem?_setIfInBounds_ne (fun e2 => he e2.symm)
  refine ⟨by rw [Array.size_setIfInBounds]; exact h.sz, fun k k1 k2 k3 k4 k9 k10 => (oth k (by assumption)).trans (h.off k k1 k2 k3 k4 k9 k10), h.fr.same fr, ?_, ?_, ?_, ?_, ?_, ?_, ?_, ?_⟩
  · intro hl; have hl2 : l.getD 0 false = true := by (rcases upd hl with e | e; (focus omega); exact e)
    exact (oth d1 (by omega)).trans (h.v1 hl2)
  · intro hl; have hl2 : l.getD 1 false = true := by (rcases upd hl with e | e; (focus omega); exact e)
    obtain ⟨b0, b2, b3, e0, e2, e3, h1, h2⟩ := h.v2 hl2; exact ⟨b0, b2, b3, e0, e2, e3, (oth d2 (by omega)).trans h1, h2.keepN fr⟩
  · intro hl; have hl2 : l.getD 2 false = true := by (rcases upd hl with e | e; (focus omega); exact e)
    exact (oth d3 (by omega)).trans (h.v3 hl2)
  · intro hl; have hl2 : l.getD 3 false = true := by (rcases upd hl with e | e; (focus omega); exact e)
    obtain ⟨b4, b5, e4, e5, h1, h2⟩ := h.v4 hl2; exact ⟨b4, b5, e4, e5, (oth d4 (by omega)).trans h1, h2.keepN fr⟩
  · intro hl; have hl2 : l.getD 4 false = true := by (rcases upd hl with e | e; (focus omega); exact e)
    obtain ⟨g, o, h1, h2, h3, h4, h5⟩ := h.v9 hl2; exact ⟨g, o, (oth d9 (by omega)).trans h1, h2, h3, fn_w fr h4, fun hx => (oth d2 (by omega)).trans (h5 (by rcases upd hx with e | e; (focus omega); exact e))⟩
  · intro _; obtain ⟨g, o, rfl, h1, h2, h3⟩ := hv; exact ⟨g, o, self, h1, h2, h3, fun hx => by rcases upd hx with e | e; (focus omega); rw [hn7] at e; cases e⟩
  · intro hl; have := h.o6 (by rcases upd hl with e | e; (focus omega); exact e); exact ⟨keepL this.1, keepL this.2⟩
  · intro hl; have := h.o7 (by rcases upd hl with e | e; (focus omega); exact e); exact ⟨keepL this.1, keepL this.2⟩
theorem OwJ.s6 {V : World} {A fa pa : Array Value} {f : Fu} {p : Fm} {d1 d2 d3 d4 d9 d10 : Nat} {l : Array Bool} {T : Array Value} {w : World} {g : Nat} {o cs : Array Value} (h : OwJ V A f p fa pa d1 d2 d3 d4 d9 d10 l T w) (ho : w.heap[g]? = some (.cells o 35 (0, 0))) (hg : T[d9]? = some (.pointer (some ⟨g, 0, none⟩))) (hV : V.heap.size ≤ g) (hc : cs.size = 4) (hT : T[d2]? = some (.agg cs)) (l1 : l.getD 1 false = true) (l4 : l.getD 4 false = true) : OwJ V A f p fa pa d1 d2 d3 d4 d9 d10 (l.setIfInBounds 6 true) T (w.setRow g cs) := by
  have f1 := Fr.setRow w g cs
  refine ⟨h.sz, h.off, h.fr.over f1 (fun k e => by omega), ?_, ?_, ?_, ?_, ?_, ?_, fun hl => ⟨keepL l1, keepL l4⟩, fun hl => have q := h.o7 (by rcases upd hl with e | e; (focus omega); exact e); ⟨keepL q.1, keepL q.2⟩⟩
  · intro hl; exact h.v1 (by rcases upd hl with e | e; (focus omega); exact e)
  · intro hl; obtain ⟨b0, b2, b3, e0, e2, e3, h1, h2⟩ := h.v2 (by rcases upd hl with e | e; (focus omega); exact e); exact ⟨b0, b2, b3, e0, e2, e3, h1, h2.box ho t_ne.1 t_ne.2.1 f1⟩
  · intro hl; exact h.v3 (by rcases upd hl with e | e; (focus omega); exact e)
  · intro hl; obtain ⟨b4, b5, e4, e5, h1, h2⟩ := h.v4 (by rcases upd hl with e | e; (focus omega); exact e); exact ⟨b4, b5, e4, e5, h1, h2.box ho t_ne.1 t_ne.2.2.1 f1⟩
  · intro hl; exact ⟨g, cs, hg, hV, hc, setRow_heap w g _ cs _ _ ho, fun _ => hT⟩
  · intro hl; obtain ⟨g2, o2, h1, h2, h3, h4, h5⟩ := h.v10 (by rcases upd hl with e | e; (focus omega); exact e)
    refine ⟨g2, o2, h1, h2, h3, (setRow_other w g g2 cs ?_).trans h4, fun hx => h5 (by rcases upd hx with e | e; (focus omega); exact e)⟩
    rintro rfl
    rw [ho] at h4
    simp only [Option.some.injEq, Obj.cells.injEq] at h4
    exact absurd h4.2.1 (by decide)
theorem OwJ.s7 {V : World} {A fa pa : Array Value} {f : Fu} {p : Fm} {d1 d2 d3 d4 d9 d10 : Nat} {l : Array Bool} {T : Array Value} {w : World} {g : Nat} {o cs : Array Value} (h : OwJ V A f p fa pa d1 d2 d3 d4 d9 d10 l T w) (ho : w.heap[g]? = some (.cells o 39 (0, 0))) (hg : T[d10]? = some (.pointer (some ⟨g, 0, none⟩))) (hV : V.heap.size ≤ g) (hc : cs.size = 2) (hT : T[d4]? = some (.agg cs)) (l3 : l.getD 3 false = true) (l5 : l.getD 5 false = true) : OwJ V A f p fa pa d1 d2 d3 d4 d9 d10 (l.setIfInBounds 7 true) T (w.setRow g cs) := by
  have f1 := Fr.setRow w g cs
  refine ⟨h.sz, h.off, h.fr.over f1 (fun k e => by omega), ?_, ?_, ?_, ?_, ?_, ?_, fun hl => have q := h.o6 (by rcases upd hl with e | e; (focus omega); exact e); ⟨keepL q.1, keepL q.2⟩, fun hl => ⟨keepL l3, keepL l5⟩⟩
  · intro hl; exact h.v1 (by rcases upd hl with e | e; (focus omega); exact e)
  · intro hl; obtain ⟨b0, b2, b3, e0, e2, e3, h1, h2⟩ := h.v2 (by rcases upd hl with e | e; (focus omega); exact e); exact ⟨b0, b2, b3, e0, e2, e3, h1, h2.box ho int_fr t_ne.2.2.2.1 f1⟩
  · intro hl; exact h.v3 (by rcases upd hl with e | e; (focus omega); exact e)
  · intro hl; obtain ⟨b4, b5, e4, e5, h1, h2⟩ := h.v4 (by rcases upd hl with e | e; (focus omega); exact e); exact ⟨b4, b5, e4, e5, h1, h2.box ho int_fr t_ne.2.2.2.2 f1⟩
  · intro hl; obtain ⟨g2, o2, h1, h2, h3, h4, h5⟩ := h.v9 (by rcases upd hl with e | e; (focus omega); exact e)
    refine ⟨g2, o2, h1, h2, h3, (setRow_other w g g2 cs ?_).trans h4, fun hx => h5 (by rcases upd hx with e | e; (focus omega); exact e)⟩
    rintro rfl
    rw [ho] at h4
    simp only [Option.some.injEq, Obj.cells.injEq] at h4
    exact absurd h4.2.1 (by decide)
  · intro hl; exact ⟨g, cs, hg, hV, hc, setRow_heap w g _ cs _ _ ho, fun _ => hT⟩
abbrev zFa : Array Value := #[.slice none 0 0, ci 0, .slice none 0 0, .slice none 0 0]
abbrev zPa : Array Value := #[.slice none 0 0, .slice none 0 0]
abbrev ownOps (ps : String) (s4 s5 d1 d2 d3 d4 d9 d10 : Nat) : List Oper :=
  [{ dst := some d1, op := .load 27 (.tmp s4), type := 27, pos := ps, after := #[], guard := none },
   { dst := some d2, op := .call { callee := .value (.func 6), args := #[.tmp d1], argTypes := #[27] }, type := 35, pos := ps, after := #[{ on := 0, ground := .data }], guard := none },
   { dst := some d3, op := .load 30 (.tmp s5), type := 30, pos := ps, after := #[], guard := none },
   { dst := some d4, op := .call { callee := .value (.func 7), args := #[.tmp d3], argTypes := #[30] }, type := 39, pos := ps, after := #[{ on := 2, ground := .data }, { on := 1, ground := .chain }], guard := none },
   { dst := some d9, op := .alloc 35, type := 0, pos := ps, after := #[], guard := none },
   { dst := some d10, op := .alloc 39, type := 0, pos := ps, after := #[], guard := none },
   { dst := none, op := .store 35 (.tmp d9) (.tmp d2), type := 0, pos := ps, after := #[{ on := 4, ground := .data }, { on := 1, ground := .data }, { on := 3, ground := .chain }, { on := 0, ground := .phase }, { on := 1, ground := .phase }, { on := 2, ground := .textOnly .lateStores }, { on := 3, ground := .textOnly .lateStoresUnsure }, { on := 4, ground := .phase }, { on := 5, ground := .phase }], guard := none },
   { dst := none, op := .store 39 (.tmp d10) (.tmp d4), type := 0, pos := ps, after := #[{ on := 5, ground := .data }, { on := 3, ground := .data }, { on := 6, ground := .chain }, { on := 0, ground := .phase }, { on := 1, ground := .phase }, { on := 2, ground := .phase }, { on := 3, ground := .phase }, { on := 4, ground := .phase }, { on := 5, ground := .phase }, { on := 6, ground := .phase }], guard := none }]
theorem own_deps (ps : String) (s4 s5 d1 d2 d3 d4 d9 d10 : Nat) : let ops := (ownOps ps s4 s5 d1 d2 d3 d4 d9 d10).toArray
    depsLow ops = true ∧ depsOf ops 1 = [0] ∧ depsOf ops 3 = [2, 1] ∧ ((depsOf ops 6).contains 4 = true ∧ (depsOf ops 6).contains 1 = true) ∧ ((depsOf ops 7).contains 5 = true ∧ (depsOf ops 7).contains 3 = true) := by
  exact ⟨by kernel_rfl, by kernel_rfl, by kernel_rfl, ⟨by kernel_rfl, by kernel_rfl⟩, ⟨by kernel_rfl, by kernel_rfl⟩⟩

/-- The region, whatever its order: both values in boxes of their own. -/
theorem own_region {Q : Exit → Act → World → Prop} {id : Nat} {ps : String} {s4 s5 d1 d2 d3 d4 d9 d10 : Nat} {A : Array Value} {df : List Deferred} {V : World} (f : Fu) (p : Fm) (fa pa : Array Value) (G4 G5 : Nat) (hfz : fa.size = 4) (hpz : pa.size = 2)
    (hd : [d1, d2, d3, d4, d9, d10].Nodup) (h4 : s4 ∉ [d1, d2, d3, d4, d9, d10]) (h5 : s5 ∉ [d1, d2, d3, d4, d9, d10]) (hlt : ∀ d ∈ [d1, d2, d3, d4, d9, d10], d < A.size)
    (a4 : A[s4]? = some (.pointer (some ⟨G4, 0, none⟩))) (a5 : A[s5]? = some (.pointer (some ⟨G5, 0, none⟩)))
    (r4 : V.heap[G4]? = some (.cells fa 27 (0, 0))) (r5 : V.heap[G5]? = some (.cells pa 30 (0, 0)))
    (kF : ∀ W, Fr (fun _ => False) V W → Calls Tryd.prog 6 #[.agg fa] W fun e w' => ∃ b0 b2 b3 e0 e2 e3, e = .returned (.agg (fnV f b0 b2 b3 e0 e2 e3)) ∧ FnO w' V.heap.size (.agg (fnV f b0 b2 b3 e0 e2 e3)) f ∧ Fr (fun _ => False) W w')
    (kP : ∀ W, Fr (fun _ => False) V W → Calls Tryd.prog 7 #[.agg pa] W fun e w' => ∃ b4 b5 e4 e5, e = .returned (.agg (fmV p b4 b5 e4 e5)) ∧ FmO w' V.heap.size (.agg (fmV p b4 b5 e4 e5)) p ∧ Fr (fun _ => False) W w')
    (h : ∀ wx x1 x3 g9 g10 b0 b2 b3 b4 b5 e0 e2 e3 e4 e5, wx.heap[g9]? = some (.cells (fnV f b0 b2 b3 e0 e2 e3) 35 (0, 0)) → wx.heap[g10]? = some (.cells (fmV p b4 b5 e4 e5) 39 (0, 0)) → FnO wx V.heap.size (.agg (fnV f b0 b2 b3 e0 e2 e3)) f → FmO wx V.heap.size (.agg (fmV p b4 b5 e4 e5)) p →
      V.heap.size ≤ g9 → V.heap.size ≤ g10 → Fr (fun _ => False) V wx → Q .normal { tmps := (((((A.setIfInBounds d1 x1).setIfInBounds d2 (.agg (fnV f b0 b2 b3 e0 e2 e3))).setIfInBounds d3 x3).setIfInBounds d4 (.agg (fmV p b4 b5 e4 e5))).setIfInBounds d9 (.pointer (some ⟨g9, 0, none⟩))).setIfInBounds d10 (.pointer (some ⟨g10, 0, none⟩)), defers := df } wx) :
    (Code.region id (ownOps ps s4 s5 d1 d2 d3 d4 d9 d10).toArray true).wp Tryd.prog Q { tmps := A, defers := df } V := by
  obtain ⟨hl, e1, e3, ⟨q64, q61⟩, ⟨q75, q73⟩⟩ := own_deps ps s4 s5 d1 d2 d3 d4 d9 d10
  have m4 : s4 ≠ d1 ∧ s4 ≠ d2 ∧ s4 ≠ d3 ∧ s4 ≠ d4 ∧ s4 ≠ d9 ∧ s4 ≠ d10 := by simpa [not_or] using h4
  have m5 : s5 ≠ d1 ∧ s5 ≠ d2 ∧ s5 ≠ d3 ∧ s5 ≠ d4 ∧ s5 ≠ d9 ∧ s5 ≠ d10 := by simpa [not_or] using h5
  refine wp_region_inv (fun l a w => ∃ T, a = { tmps := T, defers := df } ∧ OwJ V A f p fa pa d1 d2 d3 d4 d9 d10 l T w) (by kernel_rfl) hl ?_ ?_ ?_
  · refine ⟨A, rfl, ⟨rfl, fun _ _ _ _ _ _ _ => rfl, Fr.drew _ _, ?_, ?_, ?_, ?_, ?_, ?_, ?_, ?_⟩⟩ <;> (intro hx; exact absurd hx (by simp [Array.getD_eq_getD_getElem?]))
  · rintro l a w i hz ⟨T, rfl, J⟩ hn hi hdep
    have hi8 : i < 8 := hi
    have lz : ∀ d ∈ [d1, d2, d3, d4, d9, d10], d < A.size := hlt
    have hn2 := not_l hn
    rcases i with _ | _ | _ | _ | _ | _ | _ | _ | i
    · refine wpOp_at { dst := some d1, op := .load 27 (.tmp s4), type := 27, pos := ps, after := #[], guard := none } rfl rfl fun K hK => ?_
      exact wp_load_row 27 (.tmp s4) rfl G4 (eval_at ((J.off s4 m4.1 m4.2.1 m4.2.2.1 m4.2.2.2.1 m4.2.2.2.2.1 m4.2.2.2.2.2).trans a4)) 27 fa (0, 0) _ (fn_w J.fr r4) Tryd.underlying27 rfl (by rw [hfz]; kernel_rfl)
        (hK _ _ ⟨_, rfl, J.s0 hd (hlt _ (by simp)) (Fr.refl _ _) rfl⟩)
    · have l0 : l.getD 0 false = true := hdep 0 (by rw [e1]; simp)
      refine wpOp_at { dst := some d2, op := .call { callee := .value (.func 6), args := #[.tmp d1], argTypes := #[27] }, type := 35, pos := ps, after := #[{ on := 0, ground := .data }], guard := none } rfl rfl fun K hK => ?_
      have hev := eval_at (d := df) (J.v1 l0)
      have hn6 : l.getD 6 false = false := by cases h6 : l.getD 6 false; rfl; have := (J.o6 h6).1; rw [hn2] at this; cases this
      have hev2 : T.getD d1 undef = .agg fa := hev
      go_simp
      refine (kF w J.fr).mono ?_
      rintro e w' ⟨b0, b2, b3, c0, c2, c3, rfl, hF, fw⟩
      exact hK _ _ ⟨_, rfl, J.s1 hd (hlt _ (by simp)) fw ⟨_, _, _, _, _, _, rfl, hF⟩ hn6⟩
    · refine wpOp_at { dst := some d3, op := .load 30 (.tmp s5), type := 30, pos := ps, after := #[], guard := none } rfl rfl fun K hK => ?_
      exact wp_load_row 30 (.tmp s5) rfl G5 (eval_at ((J.off s5 m5.1 m5.2.1 m5.2.2.1 m5.2.2.2.1 m5.2.2.2.2.1 m5.2.2.2.2.2).trans a5)) 30 pa (0, 0) _ (fn_w J.fr r5) Tryd.underlying30 rfl (by rw [hpz]; kernel_rfl)
        (hK _ _ ⟨_, rfl, J.s2 hd (hlt _ (by simp)) (Fr.refl _ _) rfl⟩)
    · have l2 : l.getD 2 false = true := hdep 2 (by rw [e3]; simp)
      refine wpOp_at { dst := some d4, op := .call { callee := .value (.func 7), args := #[.tmp d3], argTypes := #[30] }, type := 39, pos := ps, after := #[{ on := 2, ground := .data }, { on := 1, ground := .chain }], guard := none } rfl rfl fun K hK => ?_
      have hev := eval_at (d := df) (J.v3 l2)
      have hn7 : l.getD 7 false = false := by cases h7 : l.getD 7 false; rfl; have := (J.o7 h7).1; rw [hn2] at this; cases this
      have hev2 : T.getD d3 undef = .agg pa := hev
      go_simp
      refine (kP w J.fr).mono ?_
      rintro e w' ⟨b4, b5, c4, c5, rfl, hF, fw⟩
      exact hK _ _ ⟨_, rfl, J.s3 hd (hlt _ (by simp)) fw ⟨_, _, _, _, rfl, hF⟩ hn7⟩
    · refine wpOp_at { dst := some d9, op := .alloc 35, type := 0, pos := ps, after := #[], guard := none } rfl rfl fun K hK => ?_
      have hn6 : l.getD 6 false = false := by cases h6 : l.getD 6 false; rfl; have := (J.o6 h6).2; rw [hn2] at this; cases this
      go_simp
      exact hK _ _ ⟨_, rfl, J.s4 hd (hlt _ (by simp)) (Fr.alloc _ _ _) ⟨_, zFa, rfl, J.fr.size, rfl, alloc_new _ _⟩ hn6⟩
    · refine wpOp_at { dst := some d10, op := .alloc 39, type := 0, pos := ps, after := #[], guard := none } rfl rfl fun K hK => ?_
      have hn7 : l.getD 7 false = false := by cases h7 : l.getD 7 false; rfl; have := (J.o7 h7).2; rw [hn2] at this; cases this
      go_simp
      exact hK _ _ ⟨_, rfl, J.s5 hd (hlt _ (by simp)) (Fr.alloc _ _ _) ⟨_, zPa, rfl, J.fr.size, rfl, alloc_new _ _⟩ hn7⟩
    · have l4 : l.getD 4 false = true := hdep 4 (List.contains_iff_mem.1 q64)
      have l1 : l.getD 1 false = true := hdep 1 (List.contains_iff_mem.1 q61)
      obtain ⟨g, o, t1, t2, t3, t4, _⟩ := J.v9 l4
      obtain ⟨b0, b2, b3, c0, c2, c3, t6, _⟩ := J.v2 l1
      refine wpOp_at { dst := none, op := .store 35 (.tmp d9) (.tmp d2), type := 0, pos := ps, after := #[{ on := 4, ground := .data }, { on := 1, ground := .data }, { on := 3, ground := .chain }, { on := 0, ground := .phase }, { on := 1, ground := .phase }, { on := 2, ground := .textOnly .lateStores }, { on := 3, ground := .textOnly .lateStoresUnsure }, { on := 4, ground := .phase }, { on := 5, ground := .phase }], guard := none } rfl rfl fun K hK => ?_
      exact wp_store_row 35 (.tmp d9) (.tmp d2) rfl g _ (eval_at t1) (eval_at t6) 35 o t4 (by kernel_rfl) t3 (by simp [Value.oneCell']) (hK _ _ ⟨T, rfl, J.s6 t4 t1 t2 rfl t6 l1 l4⟩)
    · have l5 : l.getD 5 false = true := hdep 5 (List.contains_iff_mem.1 q75)
      have l3 : l.getD 3 false = true := hdep 3 (List.contains_iff_mem.1 q73)
      obtain ⟨g, o, t1, t2, t3, t4, _⟩ := J.v10 l5
      obtain ⟨b4, b5, c4, c5, t6, _⟩ := J.v4 l3
      refine wpOp_at { dst := none, op := .store 39 (.tmp d10) (.tmp d4), type := 0, pos := ps, after := #[{ on := 5, ground := .data }, { on := 3, ground := .data }, { on := 6, ground := .chain }, { on := 0, ground := .phase }, { on := 1, ground := .phase }, { on := 2, ground := .phase }, { on := 3, ground := .phase }, { on := 4, ground := .phase }, { on := 5, ground := .phase }, { on := 6, ground := .phase }], guard := none } rfl rfl fun K hK => ?_
      exact wp_store_row 39 (.tmp d10) (.tmp d4) rfl g _ (eval_at t1) (eval_at t6) 39 o t4 (by kernel_rfl) t3 (by simp [Value.oneCell']) (hK _ _ ⟨T, rfl, J.s7 t4 t1 t2 rfl t6 l3 l5⟩)
    · omega
  · rintro l a w hz hall ⟨T, rfl, J⟩
    have L : ∀ k, k < 8 → l.getD k false = true := fun k hk => by
      have h1 := hall k hk
      have h2 : k < l.size := by rw [hz]; exact hk
      rw [Array.getD_eq_getD_getElem?, Array.getElem?_eq_getElem h2] at h1 ⊢
      exact h1
    have t1 := J.v1 (L 0 (by omega))
    obtain ⟨b0, b2, b3, c0, c2, c3, t2, hF⟩ := J.v2 (L 1 (by omega))
    have t3 := J.v3 (L 2 (by omega))
    obtain ⟨b4, b5, c4, c5, t4, hP⟩ := J.v4 (L 3 (by omega))
    obtain ⟨g9, o9, t9, u1, u2, u3, u4⟩ := J.v9 (L 4 (by omega))
    obtain ⟨g10, o10, t10, v1, v2, v3, v4⟩ := J.v10 (L 5 (by omega))
    obtain rfl : o9 = fnV f b0 b2 b3 c0 c2 c3 := by have := (u4 (L 6 (by omega))).symm.trans t2; simpa using this
    obtain rfl : o10 = fmV p b4 b5 c4 c5 := by have := (v4 (L 7 (by omega))).symm.trans t4; simpa using this
    have := h w (.agg fa) (.agg pa) g9 g10 b0 b2 b3 b4 b5 c0 c2 c3 c4 c5 u3 v3 hF hP u1 v1 J.fr
    have e : T = (((((A.setIfInBounds d1 (.agg fa)).setIfInBounds d2 (.agg (fnV f b0 b2 b3 c0 c2 c3))).setIfInBounds d3 (.agg pa)).setIfInBounds d4 (.agg (fmV p b4 b5 c4 c5))).setIfInBounds d9 (.pointer (some ⟨g9, 0, none⟩))).setIfInBounds d10 (.pointer (some ⟨g10, 0, none⟩)) := by
      have hd2 := hd
      simp only [List.nodup_cons, List.mem_cons, not_or, List.not_mem_nil, not_false_iff, List.nodup_nil, and_true] at hd2
      obtain ⟨⟨n01, n02, n03, n04, n05⟩, ⟨n12, n13, n14, n15⟩, ⟨n23, n24, n25⟩, ⟨n34, n35⟩, n45⟩ := hd2
      have z1 := hlt d1 (by simp)
      have z2 := hlt d2 (by simp)
      have z3 := hlt d3 (by simp)
      have z4 := hlt d4 (by simp)
      have z9 := hlt d9 (by simp)
      have z10 := hlt d10 (by simp)
      apply Array.ext_getElem?
      intro k
      simp only [Array.getElem?_setIfInBounds, Array.size_setIfInBounds]
      by_cases k10 : d10 = k
      · subst k10; rw [if_pos rfl, if_pos z10]; exact t10
      rw [if_neg k10]
      by_cases k9 : d9 = k
      · subst k9; rw [if_pos rfl, if_pos z9]; exact t9
      rw [if_neg k9]
      by_cases k4 : d4 = k
      · subst k4; rw [if_pos rfl, if_pos z4]; exact t4
      rw [if_neg k4]
      by_cases k3 : d3 = k
      · subst k3; rw [if_pos rfl, if_pos z3]; exact t3
      rw [if_neg k3]
      by_cases k2 : d2 = k
      · subst k2; rw [if_pos rfl, if_pos z2]; exact t2
      rw [if_neg k2]
      by_cases k1 : d1 = k
      · subst k1; rw [if_pos rfl, if_pos z1]; exact t1
      rw [if_neg k1]
      exact J.off k (fun e => k1 e.symm) (fun e => k2 e.symm) (fun e => k3 e.symm) (fun e => k4 e.symm) (fun e => k9 e.symm) (fun e => k10 e.symm)
    rw [e]
    exact this
end Go.Proofs.YtphpmaimgndjmaaDoor.Cd
