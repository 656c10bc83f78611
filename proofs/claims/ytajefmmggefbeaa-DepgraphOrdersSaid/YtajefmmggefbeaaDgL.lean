/- Rows of lists of texts, of a call's own. -/
import Derived.Test.YtajefmmggefbeaaDgA
namespace Go.Proofs.Ytajefmmggefbeaa.Dg
open Go.RowKit Go.Sort
set_option linter.unusedSimpArgs false
set_option linter.unusedVariables false

theorem Try.info_sl : (Try.prog.info? 23).map (fun i => (i.zero, i.size, i.bytes)) = some (some (.slice none 0 0), 1, 24) := by kernel_rfl
/-- A row of lists of texts, of the call's own: the lists lie elsewhere. -/
def LL (w : World) (B : Nat) (v : Value) (ls : List (List Str)) : Prop :=
  ∃ xs : List Value, xs.length = ls.length ∧ w.ownsRow B 23 1 v xs.length xs ∧
    ∀ (i : Nat) (x : Value) (l : List Str), xs[i]? = some x → ls[i]? = some l → Tl w x l ∧ ∀ k, x.ownBlock = some k → B ≤ k ∧ k < w.heap.size ∧ v.ownBlock ≠ some k
theorem LL.nil (w : World) (B : Nat) : LL w B (.slice none 0 0) [] := ⟨[], rfl, ⟨by simp, Or.inl ⟨rfl, rfl⟩⟩, fun i x l h => by simp at h⟩
theorem own_row {w : World} {B : Nat} {e : TypeId} {v : Value} {n : Nat} {xs : List Value} (h : w.ownsRow B e 1 v n xs) : ∀ k, v.ownBlock = some k → B ≤ k ∧ k < w.heap.size := by
  intro k hk
  rcases h.2 with ⟨rfl, _⟩ | ⟨g, cap, cur, rfl, hb, hg, _⟩
  · cases hk
  · have : g = k := by simpa [Value.ownBlock] using hk
    subst this
    exact ⟨hb, lt_of_heap hg⟩
theorem row_keep {S : Nat → Prop} {w w' : World} {B : Nat} {e : TypeId} {v : Value} {n : Nat} {xs : List Value} (h : w.ownsRow B e 1 v n xs) (hf : Fr S w w') (hn : ∀ k, v.ownBlock = some k → ¬ S k) : w'.ownsRow B e 1 v n xs := by
  refine ⟨h.1, ?_⟩
  rcases h.2 with h0 | ⟨g, cap, cur, rfl, hb, hg, rest⟩
  · exact Or.inl h0
  · exact Or.inr ⟨g, cap, cur, rfl, hb, hf.heap hg (hn g rfl), rest⟩
theorem LL.keep {S : Nat → Prop} {w w' : World} {B : Nat} {v : Value} {ls : List (List Str)} (h : LL w B v ls) (hf : Fr S w w') (hS : ∀ k, B ≤ k → k < w.heap.size → ¬ S k) : LL w' B v ls := by
  obtain ⟨xs, h1, h2, h3⟩ := h
  refine ⟨xs, h1, row_keep h2 hf (fun k hk => hS k (own_row h2 k hk).1 (own_row h2 k hk).2), fun i x l hx hl => ?_⟩
  obtain ⟨k1, k2⟩ := h3 i x l hx hl
  exact ⟨k1.keep hf (fun k hk => hS k (k2 k hk).1 (k2 k hk).2.1), fun k hk => ⟨(k2 k hk).1, Nat.lt_of_lt_of_le (k2 k hk).2.1 hf.size, (k2 k hk).2.2⟩⟩
theorem LL.later {w w' : World} {B : Nat} {v : Value} {ls : List (List Str)} (h : LL w B v ls) (hf : Fr (fun _ => False) w w') : LL w' B v ls := h.keep hf (fun _ _ _ f => f)
theorem LL.lower {w : World} {B B' : Nat} {v : Value} {ls : List (List Str)} (h : LL w B v ls) (hb : B' ≤ B) : LL w B' v ls := by
  obtain ⟨xs, h1, h2, h3⟩ := h
  refine ⟨xs, h1, ⟨h2.1, ?_⟩, fun i x l hx hl => ⟨(h3 i x l hx hl).1, fun k hk => ⟨Nat.le_trans hb ((h3 i x l hx hl).2 k hk).1, ((h3 i x l hx hl).2 k hk).2⟩⟩⟩
  rcases h2.2 with h0 | ⟨g, cap, cur, rfl, hb2, r⟩
  · exact Or.inl h0
  · exact Or.inr ⟨g, cap, cur, rfl, by omega, r⟩
theorem LL.shape {w : World} {B : Nat} {v : Value} {ls : List (List Str)} (h : LL w B v ls) : ∃ ao cap, v = .slice ao ls.length cap ∧ ls.length ≤ cap ∧ cap ≤ 9223372036854775807 := by
  obtain ⟨xs, h1, h2, h3⟩ := h
  rcases h2.2 with ⟨rfl, h0⟩ | ⟨g, cap, cur, rfl, hb2, hg, hnc, hcm, _⟩
  · have : ls.length = 0 := by omega
    exact ⟨none, 0, by rw [this], by omega, by omega⟩
  · unfold maxLen at hcm
    exact ⟨_, cap, by rw [h1], by omega, by omega⟩
theorem LL.own {w : World} {B : Nat} {v : Value} {ls : List (List Str)} (h : LL w B v ls) : ∀ k, v.ownBlock = some k → B ≤ k ∧ k < w.heap.size := by
  obtain ⟨xs, h1, h2, h3⟩ := h
  exact own_row h2
/-- An element of the row. -/
theorem LL.at {w : World} {B : Nat} {ao : Option Addr} {n cap : Nat} {ls : List (List Str)} (h : LL w B (.slice ao n cap) ls) {j : Nat} {l : List Str} (hl : ls[j]? = some l) : ∃ b x, ao = some ⟨b, 0, none⟩ ∧ w.cell? ⟨b, j, none⟩ = some x ∧ Tl w x l ∧ ∀ k, x.ownBlock = some k → B ≤ k := by
  obtain ⟨xs, h1, h2, h3⟩ := h
  have hj := (List.getElem?_eq_some_iff.1 hl).1
  obtain ⟨x, hx⟩ : ∃ x, xs[j]? = some x := ⟨xs[j], List.getElem?_eq_getElem (by omega)⟩
  rcases h2.2 with ⟨e, h0⟩ | ⟨g, cap', cur, e, hb2, hg, hnc, hcm, hcs, ht⟩
  · omega
  · cases e
    refine ⟨g, x, rfl, ?_, (h3 j x l hx hl).1, fun k hk => ((h3 j x l hx hl).2 k hk).1⟩
    rw [cell_of_row w g j cur _ (0, 0) hg]
    rw [← ht, List.getElem?_take] at hx
    split at hx
    · simpa using hx
    · cases hx
/-- All its elements, as values. -/
theorem LL.vals {w : World} {B : Nat} {ao : Option Addr} {n cap : Nat} {ls : List (List Str)} (h : LL w B (.slice ao n cap) ls) : ∃ xs : List Value, xs.length = ls.length ∧ n = xs.length ∧ n ≤ cap ∧ cap ≤ 9223372036854775807 ∧ (xs = [] ∨ ∃ b off, ao = some ⟨b, off, none⟩ ∧ ∀ (i : Nat) (x : Value), xs[i]? = some x → w.cell? ⟨b, off + i, none⟩ = some x) ∧ ∀ (i : Nat) (x : Value) (l : List Str), xs[i]? = some x → ls[i]? = some l → Tl w x l := by
  obtain ⟨xs, h1, h2, h3⟩ := h
  rcases h2.2 with ⟨e, h0⟩ | ⟨g, cap', cur, e, hb2, hg, hnc, hcm, hcs, ht⟩
  · cases e
    exact ⟨xs, h1, h0.symm, Nat.le_refl _, by omega, Or.inl (List.eq_nil_of_length_eq_zero h0), fun i x l hx hl => (h3 i x l hx hl).1⟩
  · cases e
    refine ⟨xs, h1, rfl, hnc, by unfold maxLen at hcm; omega, Or.inr ⟨g, 0, rfl, fun i x hx => ?_⟩, fun i x l hx hl => (h3 i x l hx hl).1⟩
    rw [Nat.zero_add, cell_of_row w g i cur _ (0, 0) hg]
    rw [← ht, List.getElem?_take] at hx
    split at hx
    · simpa using hx
    · cases hx
/-- One list more. -/
theorem run_appl (w : World) (B : Nat) (v y : Value) (ls : List (List Str)) (l : List Str) (ty : TypeId) (x : Value) (hv : LL w B v ls) (hc : ∃ b off cap, x = .slice (some ⟨b, off, none⟩) 1 cap ∧ w.cell? ⟨b, off, none⟩ = some y) (hy : Tl w y l) (hyb : ∀ k, y.ownBlock = some k → B ≤ k ∧ k < w.heap.size ∧ v.ownBlock ≠ some k) (hB : B ≤ w.heap.size) (hb : (ls.length + 1) * 24 ≤ 140737488355328) :
    ∃ v' w', (Builtin.append_ #[39, 39] ty #[v, x]).run Try.prog w = .ok v' w' ∧ LL w' B v' (ls ++ [l]) ∧ Fr (fun k => v.ownBlock = some k) w w' ∧ (v'.ownBlock = v.ownBlock ∨ v'.ownBlock = some w.heap.size) := by
  obtain ⟨i0, hi, hz0, hz1, hz2⟩ := info_parts Try.info_sl
  obtain ⟨xs, h1, h2, h3⟩ := hv
  obtain ⟨b, off, cap, rfl, hcy⟩ := hc
  have hnews : ∀ (j : Nat) (u : Value), [y][j]? = some u → w.cell? ((⟨b, off, none⟩ : Addr).add j) = some u := by
    intro j u hu
    cases j with
    | zero => simp at hu; subst hu; rw [Addr.add_lit]; exact hcy
    | succ j => simp at hu
  have hone : ∀ u ∈ [y], u.oneCell' = true := by
    intro u hu
    simp at hu
    subst hu
    obtain ⟨ao, c, rfl, _⟩ := hy
    rfl
  obtain ⟨v', w', hr, k2, k3, _, k5⟩ := run_append_own_at (P := Try.prog) w B 39 ty 23 i0 (.slice none 0 0) 1 24 Try.underlying39 hi hz0 hz1 hz2 rfl (by decide) v xs.length xs h2 ⟨b, off, none⟩ 1 cap [y] (by simp) hnews hone (by unfold maxLen; omega) (by omega) hB
  have hf : Fr (fun k => v.ownBlock = some k) w w' := (Fr.grown k3).mono fun k _ e => e.symm
  have hnb : ∀ k, k < w.heap.size → v.ownBlock ≠ some k → v'.ownBlock ≠ some k := by
    intro k hk hne e
    rcases k5 with k5 | k5
    · exact hne (by rw [← k5]; exact e)
    · rw [k5] at e; have := Option.some.inj e; omega
  refine ⟨v', w', hr, ⟨xs ++ [y], by simp [h1], by rw [List.length_append]; exact k2, fun i x l' hx hl => ?_⟩, hf, k5⟩
  by_cases hil : i < xs.length
  · rw [List.getElem?_append_left hil] at hx
    rw [List.getElem?_append_left (by omega)] at hl
    obtain ⟨q1, q2⟩ := h3 i x l' hx hl
    exact ⟨q1.keep hf (fun k hk => (q2 k hk).2.2), fun k hk => ⟨(q2 k hk).1, Nat.lt_of_lt_of_le (q2 k hk).2.1 hf.size, hnb k (q2 k hk).2.1 (q2 k hk).2.2⟩⟩
  · have e : i = xs.length := by
      have := (List.getElem?_eq_some_iff.1 hx).1
      simp at this; omega
    subst e
    rw [List.getElem?_append_right (Nat.le_refl _), Nat.sub_self] at hx
    rw [h1, List.getElem?_append_right (Nat.le_refl _), Nat.sub_self] at hl
    simp at hx hl
    subst hx hl
    exact ⟨hy.keep hf (fun k hk => (hyb k hk).2.2), fun k hk => ⟨(hyb k hk).1, Nat.lt_of_lt_of_le (hyb k hk).2.1 hf.size, hnb k (hyb k hk).2.1 (hyb k hk).2.2⟩⟩
theorem wpList_appl {w : World} {ops : Array Oper} {rest : List Oper} {o : Oper} {a : Act} {Q : Exit → Act → World → Prop} (hgd : o.guard = none) (s x : Operand)
    (ho : o.op = .call { callee := .builtin .append, args := #[s, x], argTypes := #[39, 39] }) (B : Nat) (v xv y : Value) (ls : List (List Str)) (l : List Str)
    (hs : a.eval s = v) (hv : LL w B v ls) (hx : a.eval x = xv) (hc : ∃ b off cap, xv = .slice (some ⟨b, off, none⟩) 1 cap ∧ w.cell? ⟨b, off, none⟩ = some y) (hy : Tl w y l) (hyb : ∀ k, y.ownBlock = some k → B ≤ k ∧ k < w.heap.size ∧ v.ownBlock ≠ some k) (hB : B ≤ w.heap.size) (hb : (ls.length + 1) * 24 ≤ 140737488355328)
    (h : ∀ v' w', LL w' B v' (ls ++ [l]) → Fr (fun k => v.ownBlock = some k) w w' → wpList Try.prog ops Q rest (a.put o.dst v') w') : wpList Try.prog ops Q (o :: rest) a w := by
  refine wpList_plain hgd fun K hK => ?_
  obtain ⟨v', w', hr, h2, h3, _⟩ := run_appl w B v y ls l o.type xv hv hc hy hyb hB hb
  unfold Oper.wp
  simp only [execOp, ho, resolve, invoke, builtin, Sem.run_bind, Sem.run_pure, Result.andThen_ok, List.map_toArray, List.map_cons, List.map_nil, hs, hx, hr]
  exact hK _ _ (h v' w' h2 h3)
theorem wpList_appl2 {w : World} {ops : Array Oper} {rest : List Oper} {o : Oper} {a : Act} {Q : Exit → Act → World → Prop} (hgd : o.guard = none) (s x : Operand)
    (ho : o.op = .call { callee := .builtin .append, args := #[s, x], argTypes := #[39, 39] }) (B : Nat) (v xv y : Value) (ls : List (List Str)) (l : List Str)
    (hs : a.eval s = v) (hv : LL w B v ls) (hx : a.eval x = xv) (hc : ∃ b off cap, xv = .slice (some ⟨b, off, none⟩) 1 cap ∧ w.cell? ⟨b, off, none⟩ = some y) (hy : Tl w y l) (hyb : ∀ k, y.ownBlock = some k → B ≤ k ∧ k < w.heap.size ∧ v.ownBlock ≠ some k) (hB : B ≤ w.heap.size) (hb : (ls.length + 1) * 24 ≤ 140737488355328)
    (h : ∀ v' w', LL w' B v' (ls ++ [l]) → Fr (fun k => v.ownBlock = some k) w w' → (v'.ownBlock = v.ownBlock ∨ v'.ownBlock = some w.heap.size) → wpList Try.prog ops Q rest (a.put o.dst v') w') : wpList Try.prog ops Q (o :: rest) a w := by
  refine wpList_plain hgd fun K hK => ?_
  obtain ⟨v', w', hr, h2, h3, h4⟩ := run_appl w B v y ls l o.type xv hv hc hy hyb hB hb
  unfold Oper.wp
  simp only [execOp, ho, resolve, invoke, builtin, Sem.run_bind, Sem.run_pure, Result.andThen_ok, List.map_toArray, List.map_cons, List.map_nil, hs, hx, hr]
  exact hK _ _ (h v' w' h2 h3 h4)
end Go.Proofs.Ytajefmmggefbeaa.Dg
