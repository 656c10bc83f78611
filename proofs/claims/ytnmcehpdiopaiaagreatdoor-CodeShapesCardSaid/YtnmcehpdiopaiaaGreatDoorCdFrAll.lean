/- Texts of ours, in one. -/
import Derived.Test.YtnmcehpdiopaiaaGreatDoorCdDsAll
import Derived.Test.YtnmcehpdiopaiaaGreatDoorCdZzAll
namespace Go.Proofs.YtnmcehpdiopaiaaGreatDoor.Cd
open Go.RowKit Ty
set_option linter.unusedSimpArgs false
set_option linter.unusedVariables false

abbrev Tb := List (Nat × Nat × Value)
abbrev setL (tbl : Tb) (A : Array Value) : Array Value := tbl.foldl (fun A e => A.setIfInBounds e.2.1 e.2.2) A
theorem setL_size : ∀ (tbl : Tb) (A : Array Value), (setL tbl A).size = A.size
  | [], A => rfl
  | a :: r, A => by
    show (setL r (A.setIfInBounds a.2.1 a.2.2)).size = A.size
    rw [setL_size r, Array.size_setIfInBounds]
theorem setL_miss : ∀ (tbl : Tb) (A : Array Value) (k : Nat), (∀ e ∈ tbl, e.2.1 ≠ k) → (setL tbl A)[k]? = A[k]?
  | [], A, k, h => rfl
  | a :: r, A, k, h => by
    show (setL r (A.setIfInBounds a.2.1 a.2.2))[k]? = A[k]?
    rw [setL_miss r _ k (fun e he => h e (List.mem_cons_of_mem _ he)), Array.getElem?_setIfInBounds_ne (h a List.mem_cons_self)]
theorem setL_hit : ∀ (tbl : Tb) (A : Array Value) (e : Nat × Nat × Value), e ∈ tbl → (∀ e ∈ tbl, e.2.1 < A.size) → (∀ a ∈ tbl, ∀ b ∈ tbl, a.2.1 = b.2.1 → a = b) → (setL tbl A)[e.2.1]? = some e.2.2
  | [], A, e, h, _, _ => by cases h
  | a :: r, A, e, h, h1, h2 => by
    show (setL r (A.setIfInBounds a.2.1 a.2.2))[e.2.1]? = some e.2.2
    by_cases hr : e ∈ r
    · exact setL_hit r _ e hr (fun b hb => by rw [Array.size_setIfInBounds]; exact h1 b (List.mem_cons_of_mem _ hb)) (fun b hb c hc => h2 b (List.mem_cons_of_mem _ hb) c (List.mem_cons_of_mem _ hc))
    · have he : e = a := by
        rcases List.mem_cons.1 h with e1 | e1
        · exact e1
        · exact absurd e1 hr
      subst he
      rw [setL_miss r _ _ (fun b hb e1 => hr (by rw [← h2 b (List.mem_cons_of_mem _ hb) e List.mem_cons_self e1]; exact hb)), Array.getElem?_setIfInBounds_self_of_lt (h1 e List.mem_cons_self)]
/-- Each row of the table is where it says. -/
def TbI (tbl : Tb) (A : Array Value) : Prop := ∀ e ∈ tbl, e.2.1 = 63 + e.1 ∧ e.1 < 11 ∧ tbl[e.1]? = some e ∧ e.2.1 < A.size
theorem TbI.eq {tbl : Tb} {A : Array Value} (h : TbI tbl A) {a b : Nat × Nat × Value} (ha : a ∈ tbl) (hb : b ∈ tbl) (e : a.1 = b.1) : a = b := by
  have h1 := (h a ha).2.2.1
  rw [e, (h b hb).2.2.1] at h1
  exact (Option.some.inj h1).symm
/-- What stands once these operations have come up. -/
structure FdJ (V : World) (A : Array Value) (tbl : Tb) (B : Nat) (RR : Option (Option Sp × Option Sp)) (l : Array Bool) (T : Array Value) (w : World) : Prop where
  sz : T.size = A.size
  off : ∀ k, (∀ e ∈ tbl, e.2.1 ≠ k) → k ≠ 74 → k ≠ 15 → T[k]? = A[k]?
  fr : Fr (fun _ => False) V w
  tb : ∀ e ∈ tbl, l.getD e.1 false = true → T[e.2.1]? = some e.2.2
  cS : l.getD 11 false = true → ∃ xs : Array Value, T[74]? = some (.agg xs) ∧ xs.size = 7 ∧ xs.all (·.oneCell') = true ∧ FlR w B (.agg xs) RR
  cX : l.getD 12 false = true → ∃ g cs, T[15]? = some (.pointer (some ⟨g, 0, none⟩)) ∧ V.heap.size ≤ g ∧ cs.size = 7 ∧ w.heap[g]? = some (.cells cs 86 (0, 0)) ∧ (l.getD 13 false = false → cs = z7) ∧ (l.getD 13 false = true → T[74]? = some (.agg cs))
  o13 : l.getD 13 false = true → l.getD 11 false = true ∧ l.getD 12 false = true
theorem updN {l : Array Bool} {i k : Nat} (hk : k ≠ i) : (l.setIfInBounds i true).getD k false = l.getD k false := by
  rw [Array.getD_eq_getD_getElem?, Array.getElem?_setIfInBounds_ne (fun e2 => hk e2.symm), ← Array.getD_eq_getD_getElem?]
theorem FdJ.read {V : World} {A : Array Value} {tbl : Tb} {B : Nat} {RR : Option (Option Sp × Option Sp)} {l : Array Bool} {T : Array Value} {w : World} (h : FdJ V A tbl B RR l T w) (hI : TbI tbl A) (e : Nat × Nat × Value) (he : e ∈ tbl) : FdJ V A tbl B RR (l.setIfInBounds e.1 true) (T.setIfInBounds e.2.1 e.2.2) w := by
  obtain ⟨i1, i2, i3, i4⟩ := hI e he
  have self : (T.setIfInBounds e.2.1 e.2.2)[e.2.1]? = some e.2.2 := Array.getElem?_setIfInBounds_self_of_lt (by rw [h.sz]; exact i4)
  have oth : ∀ k, k ≠ e.2.1 → (T.setIfInBounds e.2.1 e.2.2)[k]? = T[k]? := fun k hk => Array.getElem?_setIfInBounds_ne (fun e2 => hk e2.symm)
  refine ⟨by rw [Array.size_setIfInBounds]; exact h.sz, fun k k1 k2 k3 => (oth k (fun e2 => k1 e he e2.symm)).trans (h.off k k1 k2 k3), h.fr, fun a ha hl => ?_, fun hl => ?_, fun hl => ?_, fun hl => ?_⟩
  · by_cases e2 : a.1 = e.1
    · rw [hI.eq ha he e2]; exact self
    · rw [updN e2] at hl
      rw [oth _ (by rw [(hI a ha).1, i1]; omega)]
      exact h.tb a ha hl
  · rw [updN (by omega)] at hl
    rw [oth 74 (by omega)]
    exact h.cS hl
  · rw [updN (by omega)] at hl
    rw [oth 15 (by omega), oth 74 (by omega), updN (by omega)]
    exact h.cX hl
  · rw [updN (by omega)] at hl ⊢
    rw [updN (by omega)]
    exact h.o13 hl
theorem FdJ.call {V : World} {A : Array Value} {tbl : Tb} {B : Nat} {RR : Option (Option Sp × Option Sp)} {l : Array Bool} {T : Array Value} {w w' : World} {xs : Array Value} (h : FdJ V A tbl B RR l T w) (hI : TbI tbl A) (hA : 74 < A.size) (hf : Fr (fun _ => False) w w') (h11 : l.getD 13 false = false) (hs : xs.size = 7) (h1 : xs.all (·.oneCell') = true) (hF : FlR w' B (.agg xs) RR) : FdJ V A tbl B RR (l.setIfInBounds 11 true) (T.setIfInBounds 74 (.agg xs)) w' := by
  have self : (T.setIfInBounds 74 (.agg xs))[74]? = some (.agg xs) := Array.getElem?_setIfInBounds_self_of_lt (by rw [h.sz]; exact hA)
  have oth : ∀ k, k ≠ 74 → (T.setIfInBounds 74 (.agg xs))[k]? = T[k]? := fun k hk => Array.getElem?_setIfInBounds_ne (fun e2 => hk e2.symm)
  refine ⟨by rw [Array.size_setIfInBounds]; exact h.sz, fun k k1 k2 k3 => (oth k k2).trans (h.off k k1 k2 k3), h.fr.same hf, fun a ha hl => ?_, fun hl => ⟨xs, self, hs, h1, hF⟩, fun hl => ?_, fun hl => ?_⟩
  · have := (hI a ha)
    rw [updN (by omega)] at hl
    rw [oth _ (by omega)]
    exact h.tb a ha hl
  · rw [updN (by omega)] at hl
    obtain ⟨g, cs, q1, q2, q3, q4, q5, q6⟩ := h.cX hl
    rw [updN (by omega), oth 15 (by omega)]
    exact ⟨g, cs, q1, q2, q3, hf.heap q4 (fun f => f), q5, fun e => by rw [h11] at e; cases e⟩
  · rw [updN (by omega), h11] at hl
    cases hl
theorem FdJ.box {V : World} {A : Array Value} {tbl : Tb} {B : Nat} {RR : Option (Option Sp × Option Sp)} {l : Array Bool} {T : Array Value} {w : World} (h : FdJ V A tbl B RR l T w) (hI : TbI tbl A) (hA : 15 < A.size) (h11 : l.getD 13 false = false) : FdJ V A tbl B RR (l.setIfInBounds 12 true) (T.setIfInBounds 15 (.pointer (some ⟨w.heap.size, 0, none⟩))) (w.alloc (.cells z7 86 (0, 0))) := by
  have hf := Fr.alloc (fun _ => False) w (.cells z7 86 (0, 0))
  have self : (T.setIfInBounds 15 (.pointer (some ⟨w.heap.size, 0, none⟩)))[15]? = some (.pointer (some ⟨w.heap.size, 0, none⟩)) := Array.getElem?_setIfInBounds_self_of_lt (by rw [h.sz]; exact hA)
  have oth : ∀ k, k ≠ 15 → (T.setIfInBounds 15 (.pointer (some ⟨w.heap.size, 0, none⟩)))[k]? = T[k]? := fun k hk => Array.getElem?_setIfInBounds_ne (fun e2 => hk e2.symm)
  refine ⟨by rw [Array.size_setIfInBounds]; exact h.sz, fun k k1 k2 k3 => (oth k k3).trans (h.off k k1 k2 k3), h.fr.same hf, fun a ha hl => ?_, fun hl => ?_, fun hl => ?_, fun hl => ?_⟩
  · have := (hI a ha)
    rw [updN (by omega)] at hl
    rw [oth _ (by omega)]
    exact h.tb a ha hl
  · rw [updN (by omega)] at hl
    obtain ⟨xs, q1, q2, q3, q4⟩ := h.cS hl
    exact ⟨xs, (oth 74 (by omega)).trans q1, q2, q3, q4.keep hf⟩
  · exact ⟨w.heap.size, z7, self, h.fr.size, rfl, alloc_new _ _, fun _ => rfl, fun e => by rw [updN (by omega), h11] at e; cases e⟩
  · rw [updN (by omega), h11] at hl
    cases hl
theorem FdJ.put {V : World} {A : Array Value} {tbl : Tb} {B : Nat} {RR : Option (Option Sp × Option Sp)} {l : Array Bool} {T : Array Value} {w : World} {g : Nat} {xs : Array Value} (h : FdJ V A tbl B RR l T w) (hI : TbI tbl A) (l11 : l.getD 11 false = true) (l12 : l.getD 12 false = true) (hg : T[15]? = some (.pointer (some ⟨g, 0, none⟩))) (hV : V.heap.size ≤ g) (ho : w.heap[g]? = some (.cells z7 86 (0, 0))) (hT : T[74]? = some (.agg xs)) (hs : xs.size = 7) (hz13 : 13 < l.size) : FdJ V A tbl B RR (l.setIfInBounds 13 true) T (w.setRow g xs) := by
  have f1 := Fr.setRow w g xs
  refine ⟨h.sz, h.off, h.fr.over f1 (fun k e => by have e : k = g := e; omega), fun a ha hl => ?_, fun hl => ?_, fun hl => ⟨g, xs, hg, hV, hs, setRow_heap w g _ xs _ _ ho, fun e => ?_, fun _ => hT⟩, fun hl => ⟨keepL l11, keepL l12⟩⟩
  · have := (hI a ha)
    rw [updN (by omega)] at hl
    exact h.tb a ha hl
  · obtain ⟨ys, q1, q2, q3, q4⟩ := h.cS l11
    exact ⟨ys, q1, q2, q3, q4.box ho z7_no f1⟩
  · rw [Array.getD_eq_getD_getElem?, Array.getElem?_setIfInBounds_self_of_lt hz13] at e
    cases e
abbrev fdOps (ps : String) : List Oper :=
  [{ dst := some 63, op := .load 27 (.tmp 2), type := 27, pos := ps, after := #[], guard := none },
   { dst := some 64, op := .load 30 (.tmp 3), type := 30, pos := ps, after := #[], guard := none },
   { dst := some 65, op := .fieldAddr 27 (.tmp 2) 2, type := 0, pos := ps, after := #[], guard := none },
   { dst := some 66, op := .load 25 (.tmp 65), type := 25, pos := ps, after := #[{ on := 2, ground := .data }], guard := none },
   { dst := some 67, op := .move (.tmp 14), type := 3, pos := ps, after := #[], guard := none },
   { dst := some 68, op := .indexAddr 25 (.tmp 66) (.tmp 67), type := 0, pos := ps, after := #[{ on := 3, ground := .data }, { on := 4, ground := .data }], guard := none },
   { dst := some 69, op := .load 84 (.tmp 68), type := 84, pos := ps, after := #[{ on := 5, ground := .data }], guard := none },
   { dst := some 70, op := .move (.tmp 13), type := 57, pos := ps, after := #[], guard := none },
   { dst := some 71, op := .move (.tmp 14), type := 3, pos := ps, after := #[], guard := none },
   { dst := some 72, op := .indexAddr 57 (.tmp 70) (.tmp 71), type := 0, pos := ps, after := #[{ on := 7, ground := .data }, { on := 8, ground := .data }], guard := none },
   { dst := some 73, op := .load 80 (.tmp 72), type := 80, pos := ps, after := #[{ on := 9, ground := .data }], guard := none },
   { dst := some 74, op := .call { callee := .value (.func 27), args := #[.tmp 63, .tmp 64, .tmp 69, .tmp 73], argTypes := #[27, 30, 84, 80] }, type := 86, pos := ps, after := #[{ on := 0, ground := .data }, { on := 1, ground := .data }, { on := 6, ground := .data }, { on := 10, ground := .data }], guard := none },
   { dst := some 15, op := .alloc 86, type := 0, pos := ps, after := #[], guard := none },
   { dst := none, op := .store 86 (.tmp 15) (.tmp 74), type := 0, pos := ps, after := #[{ on := 12, ground := .data }, { on := 11, ground := .data }, { on := 11, ground := .chain }, { on := 0, ground := .phase }, { on := 1, ground := .phase }, { on := 2, ground := .phase }, { on := 3, ground := .phase }, { on := 4, ground := .phase }, { on := 5, ground := .phase }, { on := 6, ground := .phase }, { on := 7, ground := .phase }, { on := 8, ground := .phase }, { on := 9, ground := .phase }, { on := 10, ground := .phase }, { on := 11, ground := .phase }, { on := 12, ground := .phase }], guard := none }]
theorem fd_deps (ps : String) : let ops := (fdOps ps).toArray
    depsLow ops = true ∧ (depsOf ops 3).contains 2 = true ∧ (depsOf ops 5).contains 3 = true ∧ (depsOf ops 5).contains 4 = true ∧ (depsOf ops 6).contains 5 = true ∧ (depsOf ops 9).contains 7 = true ∧ (depsOf ops 9).contains 8 = true ∧ (depsOf ops 10).contains 9 = true ∧ (depsOf ops 11).contains 0 = true ∧ (depsOf ops 11).contains 1 = true ∧ (depsOf ops 11).contains 6 = true ∧ (depsOf ops 11).contains 10 = true ∧ (depsOf ops 13).contains 11 = true ∧ (depsOf ops 13).contains 12 = true := by
  exact ⟨by kernel_rfl, by kernel_rfl, by kernel_rfl, by kernel_rfl, by kernel_rfl, by kernel_rfl, by kernel_rfl, by kernel_rfl, by kernel_rfl, by kernel_rfl, by kernel_rfl, by kernel_rfl, by kernel_rfl, by kernel_rfl⟩
abbrev fdT (v0 v1 v2 v4 v5 x0 x1 : Value) (G2 b3 o3 n c3 j gs : Nat) (i : In) : Tb := [(0, 63, .agg #[v0, v1, v2, .slice (some ⟨b3, o3, none⟩) n c3]), (1, 64, .agg #[v4, v5]), (2, 65, .pointer (some ⟨G2, 3, none⟩)), (3, 66, .slice (some ⟨b3, o3, none⟩) n c3), (4, 67, .int .i64 (j : Int)), (5, 68, .pointer (some ⟨b3, o3 + j * 4, none⟩)), (6, 69, inV i), (7, 70, .slice (some ⟨gs, 0, none⟩) n n), (8, 71, .int .i64 (j : Int)), (9, 72, .pointer (some ⟨gs, j * 2, none⟩)), (10, 73, .agg #[x0, x1])]
/-- The region, whatever its order: step's answer in a box of its own. -/
theorem fd_region {Q : Exit → Act → World → Prop} {id : Nat} {ps : String} {A : Array Value} {df : List Deferred} {V : World} (v0 v1 v2 v4 v5 x0 x1 : Value) (G2 G3 b3 o3 n c3 j gs B : Nat) (i : In) (RR : Option (Option Sp × Option Sp)) (hA : 75 ≤ A.size) (hjn : j < n) (hnm : n ≤ 4096) (hc3 : n ≤ c3) (hc3m : c3 ≤ 9223372036854775807)
    (a2 : A[2]? = some (.pointer (some ⟨G2, 0, none⟩))) (a3 : A[3]? = some (.pointer (some ⟨G3, 0, none⟩))) (a13 : A[13]? = some (.slice (some ⟨gs, 0, none⟩) n n)) (a14 : A[14]? = some (.int .i64 (j : Int)))
    (r2 : V.heap[G2]? = some (.cells #[v0, v1, v2, .slice (some ⟨b3, o3, none⟩) n c3] 27 (0, 0))) (r3 : V.heap[G3]? = some (.cells #[v4, v5] 30 (0, 0)))
    (i0 : V.cell? ⟨b3, o3 + j * 4, none⟩ = some (ci i.op)) (i1 : V.cell? ⟨b3, o3 + j * 4 + 1, none⟩ = some (ci i.n)) (i2 : V.cell? ⟨b3, o3 + j * 4 + 2, none⟩ = some (ci i.t)) (i3 : V.cell? ⟨b3, o3 + j * 4 + 3, none⟩ = some (.int .u64 i.b))
    (s0 : V.cell? ⟨gs, j * 2, none⟩ = some x0) (s1 : V.cell? ⟨gs, j * 2 + 1, none⟩ = some x1)
    (ks : ∀ W, Fr (fun _ => False) V W → Calls Tryz.prog 27 #[.agg #[v0, v1, v2, .slice (some ⟨b3, o3, none⟩) n c3], .agg #[v4, v5], inV i, .agg #[x0, x1]] W fun e w' => ∃ v, e = .returned v ∧ FlR w' B v RR ∧ Fr (fun _ => False) W w')
    (h : ∀ wx ok nx fr o3' n3 k3 o4 n4 k4 o5 n5 k5 o6 n6 k6 g, wx.heap[g]? = some (.cells #[.bool ok, .bool nx, .bool fr, .slice o3' n3 k3, .slice o4 n4 k4, .slice o5 n5 k5, .slice o6 n6 k6] 86 (0, 0)) → FlR wx B (.agg #[.bool ok, .bool nx, .bool fr, .slice o3' n3 k3, .slice o4 n4 k4, .slice o5 n5 k5, .slice o6 n6 k6]) RR → V.heap.size ≤ g → Fr (fun _ => False) V wx →
      Q .normal { tmps := ((setL (fdT v0 v1 v2 v4 v5 x0 x1 G2 b3 o3 n c3 j gs i) A).setIfInBounds 74 (.agg #[.bool ok, .bool nx, .bool fr, .slice o3' n3 k3, .slice o4 n4 k4, .slice o5 n5 k5, .slice o6 n6 k6])).setIfInBounds 15 (.pointer (some ⟨g, 0, none⟩)), defers := df } wx) :
    (Code.region id (fdOps ps).toArray true).wp Tryz.prog Q { tmps := A, defers := df } V := by
  have hD := fd_deps ps
  obtain ⟨hl, hD⟩ := hD
  obtain ⟨tbl, htbl⟩ : ∃ t, t = fdT v0 v1 v2 v4 v5 x0 x1 G2 b3 o3 n c3 j gs i := ⟨_, rfl⟩
  rw [← htbl] at h
  have hI : TbI tbl A := by
    rw [htbl]
    intro e he
    simp only [fdT, List.mem_cons, List.not_mem_nil, or_false] at he
    rcases he with rfl | rfl | rfl | rfl | rfl | rfl | rfl | rfl | rfl | rfl | rfl <;> (refine ⟨rfl, ?_, rfl, ?_⟩ <;> simp only [] <;> omega)
  have hge : ∀ k, k < 63 → ∀ e ∈ tbl, e.2.1 ≠ k := fun k hk e he => by have := (hI e he).1; omega
  have hM : ∀ (k d : Nat) (v : Value), (k, d, v) ∈ fdT v0 v1 v2 v4 v5 x0 x1 G2 b3 o3 n c3 j gs i → (k, d, v) ∈ tbl := fun k d v hh => by rw [htbl]; exact hh
  have hjn2 : (j : Int) < (n : Int) := by omega
  have hj0 : (0 : Int) ≤ (j : Int) := by omega
  obtain ⟨b0, b1, b2, b3'⟩ := box4 r2
  refine wp_region_inv (fun l a w => ∃ T, a = { tmps := T, defers := df } ∧ FdJ V A tbl B RR l T w) (by kernel_rfl) hl ?_ ?_ ?_
  · refine ⟨A, rfl, ⟨rfl, fun _ _ _ _ => rfl, Fr.drew _ _, ?_, ?_, ?_, ?_⟩⟩
    · intro e _ hx; exact absurd hx (by simp [Array.getD_eq_getD_getElem?, Array.getElem?_replicate]; split <;> simp)
    all_goals (intro hx; exact absurd hx (by simp [Array.getD_eq_getD_getElem?, Array.getElem?_replicate]))
  · rintro l a w k hz ⟨T, rfl, J⟩ hnl hk hdep
    have hk14 : k < 14 := hk
    have hn2 := not_l hnl
    have t2 := eval_at (d := df) ((J.off 2 (hge 2 (by omega)) (by omega) (by omega)).trans a2)
    have t3 := eval_at (d := df) ((J.off 3 (hge 3 (by omega)) (by omega) (by omega)).trans a3)
    have t13 : T.getD 13 undef = _ := eval_at (d := df) ((J.off 13 (hge 13 (by omega)) (by omega) (by omega)).trans a13)
    have t14 : T.getD 14 undef = _ := eval_at (d := df) ((J.off 14 (hge 14 (by omega)) (by omega) (by omega)).trans a14)
    have tv : ∀ (m d : Nat) (v : Value), (m, d, v) ∈ fdT v0 v1 v2 v4 v5 x0 x1 G2 b3 o3 n c3 j gs i → l.getD m false = true → T.getD d undef = v := fun m d v hm hl => eval_at (d := df) (J.tb (m, d, v) (hM m d v hm) hl)
    rcases k with _ | _ | _ | _ | _ | _ | _ | _ | _ | _ | _ | _ | _ | _ | k
    · refine wpOp_at { dst := some 63, op := .load 27 (.tmp 2), type := 27, pos := ps, after := #[], guard := none } rfl rfl fun K hK => ?_
      exact wp_load_row 27 (.tmp 2) rfl G2 t2 27 _ (0, 0) _ (fn_w J.fr r2) Tryz.underlying27 rfl (by kernel_rfl) (hK _ _ ⟨_, rfl, J.read hI (0, 63, (.agg #[v0, v1, v2, .slice (some ⟨b3, o3, none⟩) n c3] : Value)) (hM 0 63 _ (List.mem_of_getElem? (i := 0) rfl))⟩)
    · refine wpOp_at { dst := some 64, op := .load 30 (.tmp 3), type := 30, pos := ps, after := #[], guard := none } rfl rfl fun K hK => ?_
      exact wp_load_row 30 (.tmp 3) rfl G3 t3 30 _ (0, 0) _ (fn_w J.fr r3) Tryz.underlying30 rfl (by kernel_rfl) (hK _ _ ⟨_, rfl, J.read hI (1, 64, (.agg #[v4, v5] : Value)) (hM 1 64 _ (List.mem_of_getElem? (i := 1) rfl))⟩)
    · refine wpOp_at { dst := some 65, op := .fieldAddr 27 (.tmp 2) 2, type := 0, pos := ps, after := #[], guard := none } rfl rfl fun K hK => ?_
      have hev : T.getD 2 undef = .pointer (some ⟨G2, 0, none⟩) := t2
      go_simp
      exact hK _ _ ⟨_, rfl, J.read hI (2, 65, (.pointer (some ⟨G2, 3, none⟩) : Value)) (hM 2 65 _ (List.mem_of_getElem? (i := 2) rfl))⟩
    · refine wpOp_at { dst := some 66, op := .load 25 (.tmp 65), type := 25, pos := ps, after := #[{ on := 2, ground := .data }], guard := none } rfl rfl fun K hK => ?_
      have hev := tv 2 65 _ (List.mem_of_getElem? (i := 2) rfl) (hdep 2 (List.contains_iff_mem.1 hD.1))
      have hc := J.fr.cellN b3'
      go_simp
      exact hK _ _ ⟨_, rfl, J.read hI (3, 66, (.slice (some ⟨b3, o3, none⟩) n c3 : Value)) (hM 3 66 _ (List.mem_of_getElem? (i := 3) rfl))⟩
    · refine wpOp_at { dst := some 67, op := .move (.tmp 14), type := 3, pos := ps, after := #[], guard := none } rfl rfl fun K hK => ?_
      go_simp
      exact hK _ _ ⟨_, rfl, J.read hI (4, 67, (.int .i64 (j : Int) : Value)) (hM 4 67 _ (List.mem_of_getElem? (i := 4) rfl))⟩
    · refine wpOp_at { dst := some 68, op := .indexAddr 25 (.tmp 66) (.tmp 67), type := 0, pos := ps, after := #[{ on := 3, ground := .data }, { on := 4, ground := .data }], guard := none } rfl rfl fun K hK => ?_
      have hev := tv 3 66 _ (List.mem_of_getElem? (i := 3) rfl) (hdep 3 (List.contains_iff_mem.1 hD.2.1))
      have hev2 := tv 4 67 _ (List.mem_of_getElem? (i := 4) rfl) (hdep 4 (List.contains_iff_mem.1 hD.2.2.1))
      go_simp
      exact hK _ _ ⟨_, rfl, J.read hI (5, 68, (.pointer (some ⟨b3, o3 + j * 4, none⟩) : Value)) (hM 5 68 _ (List.mem_of_getElem? (i := 5) rfl))⟩
    · refine wpOp_at { dst := some 69, op := .load 84 (.tmp 68), type := 84, pos := ps, after := #[{ on := 5, ground := .data }], guard := none } rfl rfl fun K hK => ?_
      have hev := tv 5 68 _ (List.mem_of_getElem? (i := 5) rfl) (hdep 5 (List.contains_iff_mem.1 hD.2.2.2.1))
      have q0 := J.fr.cellN i0
      have q1 := J.fr.cellN i1
      have q2 := J.fr.cellN i2
      have q3 := J.fr.cellN i3
      go_simp
      exact hK _ _ ⟨_, rfl, J.read hI (6, 69, (inV i : Value)) (hM 6 69 _ (List.mem_of_getElem? (i := 6) rfl))⟩
    · refine wpOp_at { dst := some 70, op := .move (.tmp 13), type := 57, pos := ps, after := #[], guard := none } rfl rfl fun K hK => ?_
      go_simp
      exact hK _ _ ⟨_, rfl, J.read hI (7, 70, (.slice (some ⟨gs, 0, none⟩) n n : Value)) (hM 7 70 _ (List.mem_of_getElem? (i := 7) rfl))⟩
    · refine wpOp_at { dst := some 71, op := .move (.tmp 14), type := 3, pos := ps, after := #[], guard := none } rfl rfl fun K hK => ?_
      go_simp
      exact hK _ _ ⟨_, rfl, J.read hI (8, 71, (.int .i64 (j : Int) : Value)) (hM 8 71 _ (List.mem_of_getElem? (i := 8) rfl))⟩
    · refine wpOp_at { dst := some 72, op := .indexAddr 57 (.tmp 70) (.tmp 71), type := 0, pos := ps, after := #[{ on := 7, ground := .data }, { on := 8, ground := .data }], guard := none } rfl rfl fun K hK => ?_
      have hev := tv 7 70 _ (List.mem_of_getElem? (i := 7) rfl) (hdep 7 (List.contains_iff_mem.1 hD.2.2.2.2.1))
      have hev2 := tv 8 71 _ (List.mem_of_getElem? (i := 8) rfl) (hdep 8 (List.contains_iff_mem.1 hD.2.2.2.2.2.1))
      go_simp
      exact hK _ _ ⟨_, rfl, J.read hI (9, 72, (.pointer (some ⟨gs, j * 2, none⟩) : Value)) (hM 9 72 _ (List.mem_of_getElem? (i := 9) rfl))⟩
    · refine wpOp_at { dst := some 73, op := .load 80 (.tmp 72), type := 80, pos := ps, after := #[{ on := 9, ground := .data }], guard := none } rfl rfl fun K hK => ?_
      have hev := tv 9 72 _ (List.mem_of_getElem? (i := 9) rfl) (hdep 9 (List.contains_iff_mem.1 hD.2.2.2.2.2.2.1))
      have q0 := J.fr.cellN s0
      have q1 := J.fr.cellN s1
      go_simp
      exact hK _ _ ⟨_, rfl, J.read hI (10, 73, (.agg #[x0, x1] : Value)) (hM 10 73 _ (List.mem_of_getElem? (i := 10) rfl))⟩
    · refine wpOp_at { dst := some 74, op := .call { callee := .value (.func 27), args := #[.tmp 63, .tmp 64, .tmp 69, .tmp 73], argTypes := #[27, 30, 84, 80] }, type := 86, pos := ps, after := #[{ on := 0, ground := .data }, { on := 1, ground := .data }, { on := 6, ground := .data }, { on := 10, ground := .data }], guard := none } rfl rfl fun K hK => ?_
      have e0 := tv 0 63 _ (List.mem_of_getElem? (i := 0) rfl) (hdep 0 (List.contains_iff_mem.1 hD.2.2.2.2.2.2.2.1))
      have e1 := tv 1 64 _ (List.mem_of_getElem? (i := 1) rfl) (hdep 1 (List.contains_iff_mem.1 hD.2.2.2.2.2.2.2.2.1))
      have e6 := tv 6 69 _ (List.mem_of_getElem? (i := 6) rfl) (hdep 6 (List.contains_iff_mem.1 hD.2.2.2.2.2.2.2.2.2.1))
      have e10 := tv 10 73 _ (List.mem_of_getElem? (i := 10) rfl) (hdep 10 (List.contains_iff_mem.1 hD.2.2.2.2.2.2.2.2.2.2.1))
      have h13 : l.getD 13 false = false := by cases h6 : l.getD 13 false; rfl; have := (J.o13 h6).1; rw [hn2] at this; cases this
      go_simp
      refine (ks w J.fr).mono ?_
      rintro e w' ⟨v, rfl, hv, fw⟩
      obtain ⟨ok, nx, fr, o3', n3, k3, o4, n4, k4, o5, n5, k5, o6, n6, k6, rfl⟩ := hv.seven
      exact hK _ _ ⟨_, rfl, J.call hI (by omega) fw h13 rfl (by simp [Value.oneCell']) hv⟩
    · refine wpOp_at { dst := some 15, op := .alloc 86, type := 0, pos := ps, after := #[], guard := none } rfl rfl fun K hK => ?_
      have h13 : l.getD 13 false = false := by cases h6 : l.getD 13 false; rfl; have := (J.o13 h6).2; rw [hn2] at this; cases this
      go_simp
      exact hK _ _ ⟨_, rfl, J.box hI (by omega) h13⟩
    · refine wpOp_at { dst := none, op := .store 86 (.tmp 15) (.tmp 74), type := 0, pos := ps, after := #[{ on := 12, ground := .data }, { on := 11, ground := .data }, { on := 11, ground := .chain }, { on := 0, ground := .phase }, { on := 1, ground := .phase }, { on := 2, ground := .phase }, { on := 3, ground := .phase }, { on := 4, ground := .phase }, { on := 5, ground := .phase }, { on := 6, ground := .phase }, { on := 7, ground := .phase }, { on := 8, ground := .phase }, { on := 9, ground := .phase }, { on := 10, ground := .phase }, { on := 11, ground := .phase }, { on := 12, ground := .phase }], guard := none } rfl rfl fun K hK => ?_
      have l11 := (hdep 11 (List.contains_iff_mem.1 hD.2.2.2.2.2.2.2.2.2.2.2.1))
      have l12 := (hdep 12 (List.contains_iff_mem.1 hD.2.2.2.2.2.2.2.2.2.2.2.2))
      obtain ⟨xs, p1, p2, p3, p4⟩ := J.cS l11
      obtain ⟨g, cs, q1, q2, q3, q4, q5, q6⟩ := J.cX l12
      obtain rfl := q5 hn2
      exact wp_store_row 86 (.tmp 15) (.tmp 74) rfl g _ (eval_at q1) (eval_at p1) 86 z7 q4 (by rw [p2]; kernel_rfl) (by rw [p2]; rfl) p3 (hK _ _ ⟨T, rfl, J.put hI l11 l12 q1 q2 q4 p1 p2 (by rw [hz]; show 13 < 14; decide)⟩)
    · omega
  · rintro l a w hz hall ⟨T, rfl, J⟩
    have L : ∀ k, k < 14 → l.getD k false = true := fun k hk => by
      have h1 := hall k hk
      have h2 : k < l.size := by rw [hz]; exact hk
      rw [Array.getD_eq_getD_getElem?, Array.getElem?_eq_getElem h2] at h1 ⊢
      exact h1
    obtain ⟨xs, p1, p2, p3, p4⟩ := J.cS (L 11 (by omega))
    obtain ⟨g, cs, q1, q2, q3, q4, q5, q6⟩ := J.cX (L 12 (by omega))
    obtain rfl : cs = xs := by have := (q6 (L 13 (by omega))).symm.trans p1; simpa using this
    obtain ⟨ok, nx, fr, o3', n3, k3, o4, n4, k4, o5, n5, k5, o6, n6, k6, he⟩ := p4.seven
    obtain rfl := Value.agg.inj he
    have := h w ok nx fr o3' n3 k3 o4 n4 k4 o5 n5 k5 o6 n6 k6 g q4 p4 q2 J.fr
    have e : T = ((setL tbl A).setIfInBounds 74 (.agg #[.bool ok, .bool nx, .bool fr, .slice o3' n3 k3, .slice o4 n4 k4, .slice o5 n5 k5, .slice o6 n6 k6])).setIfInBounds 15 (.pointer (some ⟨g, 0, none⟩)) := by
      apply Array.ext_getElem?
      intro k
      simp only [Array.getElem?_setIfInBounds, Array.size_setIfInBounds, setL_size]
      by_cases k15 : 15 = k
      · subst k15; rw [if_pos rfl, if_pos (by omega)]; exact q1
      rw [if_neg k15]
      by_cases k74 : 74 = k
      · subst k74; rw [if_pos rfl, if_pos (by omega)]; exact p1
      rw [if_neg k74]
      by_cases hx : ∃ e ∈ tbl, e.2.1 = k
      · obtain ⟨e, he, rfl⟩ := hx
        rw [setL_hit tbl A e he (fun e he => (hI e he).2.2.2) (fun a ha b hb e2 => hI.eq ha hb (by have := (hI a ha).1; have := (hI b hb).1; omega))]
        exact J.tb e he (L e.1 (by have := (hI e he).2.1; omega))
      · have hx : ∀ e ∈ tbl, e.2.1 ≠ k := fun e he e2 => hx ⟨e, he, e2⟩
        rw [setL_miss tbl A k hx]
        exact J.off k hx (fun e => k74 e.symm) (fun e => k15 e.symm)
    rw [e]
    exact this
end Go.Proofs.YtnmcehpdiopaiaaGreatDoor.Cd

namespace Go.Proofs.YtnmcehpdiopaiaaGreatDoor.Cd
open Go.RowKit Ty
set_option linter.unusedSimpArgs false
set_option linter.unusedVariables false

/-- Is an operation wanted, by the table. -/
def wantV (vals : Nat → Value) (o : Oper) : Bool := match o.guard with
  | none => true
  | some (g, x) => match vals g with
    | .bool y => y == x
    | _ => false
/-- All values put. -/
def putR (b : Nat) (vals : Nat → Value) : List Nat → Array Value → Array Value
  | [], A => A
  | k :: r, A => putR b vals r (A.setIfInBounds (b + k) (vals k))
theorem putR_size (b : Nat) (vals : Nat → Value) : ∀ (l : List Nat) (A : Array Value), (putR b vals l A).size = A.size
  | [], A => rfl
  | k :: r, A => by rw [putR, putR_size b vals r, Array.size_setIfInBounds]
theorem putR_at (b : Nat) (vals : Nat → Value) : ∀ (l : List Nat) (A : Array Value) (d : Nat), (∀ k ∈ l, b + k < A.size) → (putR b vals l A)[d]? = if b ≤ d ∧ d - b ∈ l then some (vals (d - b)) else A[d]?
  | [], A, d, h => by simp [putR]
  | k :: r, A, d, h => by
    rw [putR, putR_at b vals r _ d (fun j hj => by rw [Array.size_setIfInBounds]; exact h j (List.mem_cons_of_mem _ hj))]
    by_cases h1 : b ≤ d ∧ d - b ∈ r
    · rw [if_pos h1, if_pos ⟨h1.1, List.mem_cons_of_mem _ h1.2⟩]
    · rw [if_neg h1, Array.getElem?_setIfInBounds]
      by_cases h2 : b + k = d
      · rw [if_pos h2, if_pos (h k List.mem_cons_self), if_pos ⟨by omega, by rw [show d - b = k by omega]; exact List.mem_cons_self⟩, show d - b = k by omega]
      · rw [if_neg h2, if_neg]
        rintro ⟨h3, h4⟩
        rcases List.mem_cons.1 h4 with h5 | h5
        · omega
        · exact h1 ⟨h3, h5⟩
theorem region_tab {ops : Array Oper} {Q : Exit → Act → World → Prop} {id : Nat} {A : Array Value} {df : List Deferred} {V : World} (b : Nat) (vals : Nat → Value) (c1 c2 : Nat) (Wi : Bool → Bool → World → Prop)
    (hl : depsLow ops = true) (hdst : ∀ k o, ops[k]? = some o → o.dst = some (b + k)) (hA : b + ops.size ≤ A.size) (hc : c1 ≠ c2) (hz1 : c1 < ops.size) (hz2 : c2 < ops.size)
    (hch : ∀ f : Nat → Prop, (∀ k j, j ∈ depsOf ops k → f k → f j) → f c2 → f c1)
    (hg : ∀ k o g x, ops[k]? = some o → o.guard = some (g, x) → g ∈ depsOf ops k)
    (h0 : Wi false false V.drew)
    (hs : ∀ k o T w F1 F2, ops[k]? = some o → T.size = A.size → (∀ j ∈ depsOf ops k, T.getD (b + j) undef = vals j) → (∀ d, d < b → T.getD d undef = A.getD d undef) → Wi F1 F2 w → (k = c1 → F1 = false ∧ F2 = false) → (k = c2 → F1 = true ∧ F2 = false) →
      (wantV vals o = true → ∀ K : Act → World → Prop, (∀ w', Wi (F1 || decide (k = c1)) (F2 || decide (k = c2)) w' → K { tmps := T.setIfInBounds (b + k) (vals k), defers := df } w') → o.wp Tryz.prog { tmps := T, defers := df } w K Q) ∧
      (wantV vals o = false → vals k = undef ∧ Wi (F1 || decide (k = c1)) (F2 || decide (k = c2)) w))
    (h : ∀ wx, Wi true true wx → Q .normal { tmps := putR b vals (List.range ops.size) A, defers := df } wx) :
    (Code.region id ops true).wp Tryz.prog Q { tmps := A, defers := df } V := by
  refine wp_region_inv (fun l a w => ∃ T, a = { tmps := T, defers := df } ∧ T.size = A.size ∧ (∀ k, l.getD k false = true → T[b + k]? = some (vals k)) ∧ (∀ d, (d < b ∨ b + ops.size ≤ d) → T[d]? = A[d]?) ∧ Wi (l.getD c1 false) (l.getD c2 false) w ∧ (∀ k j, j ∈ depsOf ops k → l.getD k false = true → l.getD j false = true)) (by kernel_rfl) hl ?_ ?_ ?_
  · have z : ∀ k, (Array.replicate ops.size false).getD k false = false := by
      intro k
      rw [Array.getD_eq_getD_getElem?, Array.getElem?_replicate]
      split <;> rfl
    refine ⟨A, rfl, rfl, fun k hk => ?_, fun _ _ => rfl, ?_, fun k j _ hk => ?_⟩
    · rw [z] at hk; cases hk
    · rw [z, z]; exact h0
    · rw [z] at hk; cases hk
  · rintro l a w k hz ⟨T, rfl, J1, J2, J3, J4, J5⟩ hn hk hdep
    have hn2 := not_l hn
    obtain ⟨o, ho⟩ : ∃ o, ops[k]? = some o := ⟨_, Array.getElem?_eq_getElem hk⟩
    have hd := hdst k o ho
    have hT : ∀ j ∈ depsOf ops k, T.getD (b + j) undef = vals j := fun j hj => by
      rw [Array.getD_eq_getD_getElem?, J2 j (hdep j hj)]; rfl
    have hT2 : ∀ d, d < b → T.getD d undef = A.getD d undef := fun d hd => by
      rw [Array.getD_eq_getD_getElem?, Array.getD_eq_getD_getElem?, J3 d (Or.inl hd)]
    have e1 : k = c1 → l.getD c1 false = false ∧ l.getD c2 false = false := fun e => by
      subst e
      refine ⟨hn2, ?_⟩
      cases h2 : l.getD c2 false with
      | false => rfl
      | true =>
        have := hch (fun q => l.getD q false = true) (fun q j hj hq => J5 q j hj hq) h2
        rw [hn2] at this; cases this
    have e2 : k = c2 → l.getD c1 false = true ∧ l.getD c2 false = false := fun e => by
      subst e
      refine ⟨?_, hn2⟩
      have := hch (fun q => q = k ∨ l.getD q false = true) (fun q j hj hq => by
        rcases hq with rfl | hq
        · exact Or.inr (hdep j hj)
        · exact Or.inr (J5 q j hj hq)) (Or.inl rfl)
      rcases this with e | e
      · exact absurd e hc
      · exact e
    have key := hs k o T w _ _ ho J1 hT hT2 J4 e1 e2
    -- what holds afterwards
    have aft : ∀ w', Wi (l.getD c1 false || decide (k = c1)) (l.getD c2 false || decide (k = c2)) w' → (∃ T', ({ tmps := T.setIfInBounds (b + k) (vals k), defers := df } : Act) = { tmps := T', defers := df } ∧ T'.size = A.size ∧ (∀ q, (l.setIfInBounds k true).getD q false = true → T'[b + q]? = some (vals q)) ∧ (∀ d, (d < b ∨ b + ops.size ≤ d) → T'[d]? = A[d]?) ∧ Wi ((l.setIfInBounds k true).getD c1 false) ((l.setIfInBounds k true).getD c2 false) w' ∧ (∀ q j, j ∈ depsOf ops q → (l.setIfInBounds k true).getD q false = true → (l.setIfInBounds k true).getD j false = true)) := by
      intro w' hw
      have fl : ∀ c, c < ops.size → (l.setIfInBounds k true).getD c false = (l.getD c false || decide (k = c)) := by
        intro c hc
        by_cases e : c = k
        · subst e
          rw [Array.getD_eq_getD_getElem?, Array.getElem?_setIfInBounds_self_of_lt (by rw [hz]; exact hc)]
          simp
        · rw [updN e, decide_eq_false (fun e2 => e e2.symm), Bool.or_false]
      refine ⟨_, rfl, by rw [Array.size_setIfInBounds]; exact J1, fun q hq => ?_, fun d hd => ?_, by rw [fl c1 hz1, fl c2 hz2]; exact hw, fun q j hj hq => ?_⟩
      · by_cases e : q = k
        · subst e
          exact Array.getElem?_setIfInBounds_self_of_lt (by rw [J1]; omega)
        · rw [updN e] at hq
          rw [Array.getElem?_setIfInBounds_ne (by omega)]
          exact J2 q hq
      · rw [Array.getElem?_setIfInBounds_ne (by omega)]
        exact J3 d hd
      · by_cases e : q = k
        · subst e
          exact keepL (hdep j hj)
        · rw [updN e] at hq
          exact keepL (J5 q j hj hq)
    -- is it wanted?
    have hw : Region.wanted o (yielded ops T) = wantV vals o := by
      unfold Region.wanted wantV
      cases hgd : o.guard with
      | none => rfl
      | some gx =>
        obtain ⟨g, x⟩ := gx
        have hgm := hg k o g x ho hgd
        have hgl : g < ops.size := by
          have h1 : depsLow ops = true := hl
          unfold depsLow at h1
          rw [List.all_eq_true] at h1
          have := h1 k (List.mem_range.2 hk)
          rw [List.all_eq_true] at this
          have := of_decide_eq_true (this g hgm)
          omega
        have hgt := J2 g (hdep g hgm)
        have hy : yielded ops T g = match vals g with
            | .bool y => some y
            | _ => none := by
          unfold yielded
          rw [Array.getElem?_eq_getElem hgl, Option.bind_some, hdst g _ (Array.getElem?_eq_getElem hgl), Option.bind_some, hgt]
          cases vals g <;> rfl
        simp only [hy]
        cases vals g <;> simp
    unfold wpOp
    rw [ho]
    simp only []
    rw [hw]
    cases hv : wantV vals o with
    | true =>
      rw [if_pos rfl]
      exact Or.inl (key.1 hv _ (fun w' hw' => aft w' hw'))
    | false =>
      rw [if_neg (by decide)]
      obtain ⟨k1, k2⟩ := key.2 hv
      have := aft w k2
      rw [k1] at this
      rw [hd]
      exact this
  · rintro l a w hz hall ⟨T, rfl, J1, J2, J3, J4, _⟩
    have L : ∀ k, k < ops.size → l.getD k false = true := fun k hk => by
      have h1 := hall k hk
      rw [Array.getD_eq_getD_getElem?, Array.getElem?_eq_getElem (by rw [hz]; exact hk)] at h1 ⊢
      exact h1
    rw [L c1 hz1, L c2 hz2] at J4
    have e : T = putR b vals (List.range ops.size) A := by
      apply Array.ext_getElem?
      intro d
      rw [putR_at b vals _ A d (fun k hk => by have := List.mem_range.1 hk; omega)]
      by_cases h1 : b ≤ d ∧ d - b ∈ List.range ops.size
      · rw [if_pos h1]
        have h2 := List.mem_range.1 h1.2
        have := J2 (d - b) (L _ h2)
        rw [show b + (d - b) = d by omega] at this
        exact this
      · rw [if_neg h1]
        refine J3 d ?_
        by_cases h2 : d < b
        · exact Or.inl h2
        · refine Or.inr ?_
          have : ¬ d - b < ops.size := fun h3 => h1 ⟨by omega, List.mem_range.2 h3⟩
          omega
    rw [e]
    exact h w J4
theorem dst_all {ops : Array Oper} {b : Nat} (h : (List.range ops.size).all (fun k => match ops[k]? with | none => true | some o => o.dst == some (b + k)) = true) : ∀ k o, ops[k]? = some o → o.dst = some (b + k) := by
  intro k o ho
  rw [List.all_eq_true] at h
  have := h k (List.mem_range.2 (Array.getElem?_eq_some_iff.1 ho).1)
  rw [ho] at this
  simpa using this
theorem guard_all {ops : Array Oper} (h : (List.range ops.size).all (fun k => match ops[k]? with | none => true | some o => match o.guard with | none => true | some (g, _) => (depsOf ops k).contains g) = true) : ∀ k o g x, ops[k]? = some o → o.guard = some (g, x) → g ∈ depsOf ops k := by
  intro k o g x ho hg
  rw [List.all_eq_true] at h
  have := h k (List.mem_range.2 (Array.getElem?_eq_some_iff.1 ho).1)
  rw [ho] at this
  simp only [hg] at this
  exact List.contains_iff_mem.1 this
end Go.Proofs.YtnmcehpdiopaiaaGreatDoor.Cd

namespace Go.Proofs.YtnmcehpdiopaiaaGreatDoor.Cd
open Go.RowKit Ty
set_option linter.unusedSimpArgs false
set_option linter.unusedVariables false

abbrev nrOps (ps : String) : List Oper :=
  [{ dst := some 120, op := .fieldAddr 86 (.tmp 15) 1, type := 0, pos := ps, after := #[], guard := none },
   { dst := some 121, op := .load 4 (.tmp 120), type := 4, pos := ps, after := #[{ on := 0, ground := .data }], guard := none },
   { dst := some 122, op := .move (.tmp 121), type := 4, pos := ps, after := #[{ on := 1, ground := .data }], guard := none },
   { dst := some 123, op := .move (.tmp 11), type := 56, pos := ps, after := #[{ on := 2, ground := .guard }], guard := some (2, true) },
   { dst := some 124, op := .move (.tmp 13), type := 57, pos := ps, after := #[{ on := 2, ground := .guard }], guard := some (2, true) },
   { dst := some 125, op := .move (.tmp 14), type := 3, pos := ps, after := #[{ on := 2, ground := .guard }], guard := some (2, true) },
   { dst := some 126, op := .binOp .add 3 (.tmp 125) (.const (.int .i64 1)) 3, type := 3, pos := ps, after := #[{ on := 5, ground := .data }, { on := 2, ground := .guard }], guard := some (2, true) },
   { dst := some 127, op := .fieldAddr 86 (.tmp 15) 3, type := 0, pos := ps, after := #[{ on := 2, ground := .guard }], guard := some (2, true) },
   { dst := some 128, op := .load 80 (.tmp 127), type := 80, pos := ps, after := #[{ on := 7, ground := .data }, { on := 2, ground := .guard }], guard := some (2, true) },
   { dst := some 129, op := .call { callee := .value (.func 29), args := #[.tmp 123, .tmp 124, .tmp 126, .tmp 128], argTypes := #[56, 57, 3, 80] }, type := 4, pos := ps, after := #[{ on := 3, ground := .data }, { on := 4, ground := .data }, { on := 6, ground := .data }, { on := 8, ground := .data }, { on := 2, ground := .chain }, { on := 2, ground := .guard }], guard := some (2, true) },
   { dst := some 130, op := .unOp .not 4 (.tmp 129), type := 4, pos := ps, after := #[{ on := 9, ground := .data }, { on := 2, ground := .guard }], guard := some (2, true) },
   { dst := some 131, op := .pick (.tmp 122) (.tmp 130) (.const (.bool false)), type := 4, pos := ps, after := #[{ on := 2, ground := .data }, { on := 10, ground := .data }], guard := none },
   { dst := some 132, op := .move (.tmp 131), type := 4, pos := ps, after := #[{ on := 11, ground := .data }, { on := 9, ground := .chain }], guard := none },
   { dst := some 133, op := .fieldAddr 86 (.tmp 15) 2, type := 0, pos := ps, after := #[{ on := 12, ground := .guard }], guard := some (12, false) },
   { dst := some 134, op := .load 4 (.tmp 133), type := 4, pos := ps, after := #[{ on := 13, ground := .data }, { on := 12, ground := .guard }], guard := some (12, false) },
   { dst := some 135, op := .move (.tmp 134), type := 4, pos := ps, after := #[{ on := 14, ground := .data }, { on := 12, ground := .chain }, { on := 12, ground := .guard }], guard := some (12, false) },
   { dst := some 136, op := .move (.tmp 11), type := 56, pos := ps, after := #[{ on := 15, ground := .guard }], guard := some (15, true) },
   { dst := some 137, op := .move (.tmp 13), type := 57, pos := ps, after := #[{ on := 15, ground := .guard }], guard := some (15, true) },
   { dst := some 138, op := .fieldAddr 27 (.tmp 2) 2, type := 0, pos := ps, after := #[{ on := 15, ground := .guard }], guard := some (15, true) },
   { dst := some 139, op := .load 25 (.tmp 138), type := 25, pos := ps, after := #[{ on := 18, ground := .data }, { on := 15, ground := .guard }], guard := some (15, true) },
   { dst := some 140, op := .move (.tmp 14), type := 3, pos := ps, after := #[{ on := 15, ground := .guard }], guard := some (15, true) },
   { dst := some 141, op := .indexAddr 25 (.tmp 139) (.tmp 140), type := 0, pos := ps, after := #[{ on := 19, ground := .data }, { on := 20, ground := .data }, { on := 15, ground := .guard }], guard := some (15, true) },
   { dst := some 142, op := .fieldAddr 84 (.tmp 141) 1, type := 0, pos := ps, after := #[{ on := 21, ground := .data }, { on := 15, ground := .guard }], guard := some (15, true) },
   { dst := some 143, op := .load 3 (.tmp 142), type := 3, pos := ps, after := #[{ on := 22, ground := .data }, { on := 15, ground := .guard }], guard := some (15, true) },
   { dst := some 144, op := .fieldAddr 86 (.tmp 15) 4, type := 0, pos := ps, after := #[{ on := 15, ground := .guard }], guard := some (15, true) },
   { dst := some 145, op := .load 80 (.tmp 144), type := 80, pos := ps, after := #[{ on := 24, ground := .data }, { on := 15, ground := .guard }], guard := some (15, true) },
   { dst := some 146, op := .call { callee := .value (.func 29), args := #[.tmp 136, .tmp 137, .tmp 143, .tmp 145], argTypes := #[56, 57, 3, 80] }, type := 4, pos := ps, after := #[{ on := 16, ground := .data }, { on := 17, ground := .data }, { on := 23, ground := .data }, { on := 25, ground := .data }, { on := 15, ground := .chain }, { on := 15, ground := .guard }], guard := some (15, true) },
   { dst := some 147, op := .unOp .not 4 (.tmp 146), type := 4, pos := ps, after := #[{ on := 26, ground := .data }, { on := 15, ground := .guard }], guard := some (15, true) },
   { dst := some 148, op := .pick (.tmp 135) (.tmp 147) (.const (.bool false)), type := 4, pos := ps, after := #[{ on := 15, ground := .data }, { on := 27, ground := .data }, { on := 12, ground := .guard }], guard := some (12, false) },
   { dst := some 149, op := .pick (.tmp 132) (.const (.bool true)) (.tmp 148), type := 4, pos := ps, after := #[{ on := 12, ground := .data }, { on := 28, ground := .data }], guard := none }]
theorem nr_d1_0 (ps : String) : 0 ∈ depsOf (nrOps ps).toArray 1 := List.contains_iff_mem.1 (by kernel_rfl)
theorem nr_d2_1 (ps : String) : 1 ∈ depsOf (nrOps ps).toArray 2 := List.contains_iff_mem.1 (by kernel_rfl)
theorem nr_d3_2 (ps : String) : 2 ∈ depsOf (nrOps ps).toArray 3 := List.contains_iff_mem.1 (by kernel_rfl)
theorem nr_d4_2 (ps : String) : 2 ∈ depsOf (nrOps ps).toArray 4 := List.contains_iff_mem.1 (by kernel_rfl)
theorem nr_d5_2 (ps : String) : 2 ∈ depsOf (nrOps ps).toArray 5 := List.contains_iff_mem.1 (by kernel_rfl)
theorem nr_d6_5 (ps : String) : 5 ∈ depsOf (nrOps ps).toArray 6 := List.contains_iff_mem.1 (by kernel_rfl)
theorem nr_d6_2 (ps : String) : 2 ∈ depsOf (nrOps ps).toArray 6 := List.contains_iff_mem.1 (by kernel_rfl)
theorem nr_d7_2 (ps : String) : 2 ∈ depsOf (nrOps ps).toArray 7 := List.contains_iff_mem.1 (by kernel_rfl)
theorem nr_d8_7 (ps : String) : 7 ∈ depsOf (nrOps ps).toArray 8 := List.contains_iff_mem.1 (by kernel_rfl)
theorem nr_d8_2 (ps : String) : 2 ∈ depsOf (nrOps ps).toArray 8 := List.contains_iff_mem.1 (by kernel_rfl)
theorem nr_d9_3 (ps : String) : 3 ∈ depsOf (nrOps ps).toArray 9 := List.contains_iff_mem.1 (by kernel_rfl)
theorem nr_d9_4 (ps : String) : 4 ∈ depsOf (nrOps ps).toArray 9 := List.contains_iff_mem.1 (by kernel_rfl)
theorem nr_d9_6 (ps : String) : 6 ∈ depsOf (nrOps ps).toArray 9 := List.contains_iff_mem.1 (by kernel_rfl)
theorem nr_d9_8 (ps : String) : 8 ∈ depsOf (nrOps ps).toArray 9 := List.contains_iff_mem.1 (by kernel_rfl)
theorem nr_d9_2 (ps : String) : 2 ∈ depsOf (nrOps ps).toArray 9 := List.contains_iff_mem.1 (by kernel_rfl)
theorem nr_d10_9 (ps : String) : 9 ∈ depsOf (nrOps ps).toArray 10 := List.contains_iff_mem.1 (by kernel_rfl)
theorem nr_d10_2 (ps : String) : 2 ∈ depsOf (nrOps ps).toArray 10 := List.contains_iff_mem.1 (by kernel_rfl)
theorem nr_d11_2 (ps : String) : 2 ∈ depsOf (nrOps ps).toArray 11 := List.contains_iff_mem.1 (by kernel_rfl)
theorem nr_d11_10 (ps : String) : 10 ∈ depsOf (nrOps ps).toArray 11 := List.contains_iff_mem.1 (by kernel_rfl)
theorem nr_d12_11 (ps : String) : 11 ∈ depsOf (nrOps ps).toArray 12 := List.contains_iff_mem.1 (by kernel_rfl)
theorem nr_d12_9 (ps : String) : 9 ∈ depsOf (nrOps ps).toArray 12 := List.contains_iff_mem.1 (by kernel_rfl)
theorem nr_d13_12 (ps : String) : 12 ∈ depsOf (nrOps ps).toArray 13 := List.contains_iff_mem.1 (by kernel_rfl)
theorem nr_d14_13 (ps : String) : 13 ∈ depsOf (nrOps ps).toArray 14 := List.contains_iff_mem.1 (by kernel_rfl)
theorem nr_d14_12 (ps : String) : 12 ∈ depsOf (nrOps ps).toArray 14 := List.contains_iff_mem.1 (by kernel_rfl)
theorem nr_d15_14 (ps : String) : 14 ∈ depsOf (nrOps ps).toArray 15 := List.contains_iff_mem.1 (by kernel_rfl)
theorem nr_d15_12 (ps : String) : 12 ∈ depsOf (nrOps ps).toArray 15 := List.contains_iff_mem.1 (by kernel_rfl)
theorem nr_d16_15 (ps : String) : 15 ∈ depsOf (nrOps ps).toArray 16 := List.contains_iff_mem.1 (by kernel_rfl)
theorem nr_d17_15 (ps : String) : 15 ∈ depsOf (nrOps ps).toArray 17 := List.contains_iff_mem.1 (by kernel_rfl)
theorem nr_d18_15 (ps : String) : 15 ∈ depsOf (nrOps ps).toArray 18 := List.contains_iff_mem.1 (by kernel_rfl)
theorem nr_d19_18 (ps : String) : 18 ∈ depsOf (nrOps ps).toArray 19 := List.contains_iff_mem.1 (by kernel_rfl)
theorem nr_d19_15 (ps : String) : 15 ∈ depsOf (nrOps ps).toArray 19 := List.contains_iff_mem.1 (by kernel_rfl)
theorem nr_d20_15 (ps : String) : 15 ∈ depsOf (nrOps ps).toArray 20 := List.contains_iff_mem.1 (by kernel_rfl)
theorem nr_d21_19 (ps : String) : 19 ∈ depsOf (nrOps ps).toArray 21 := List.contains_iff_mem.1 (by kernel_rfl)
theorem nr_d21_20 (ps : String) : 20 ∈ depsOf (nrOps ps).toArray 21 := List.contains_iff_mem.1 (by kernel_rfl)
theorem nr_d21_15 (ps : String) : 15 ∈ depsOf (nrOps ps).toArray 21 := List.contains_iff_mem.1 (by kernel_rfl)
theorem nr_d22_21 (ps : String) : 21 ∈ depsOf (nrOps ps).toArray 22 := List.contains_iff_mem.1 (by kernel_rfl)
theorem nr_d22_15 (ps : String) : 15 ∈ depsOf (nrOps ps).toArray 22 := List.contains_iff_mem.1 (by kernel_rfl)
theorem nr_d23_22 (ps : String) : 22 ∈ depsOf (nrOps ps).toArray 23 := List.contains_iff_mem.1 (by kernel_rfl)
theorem nr_d23_15 (ps : String) : 15 ∈ depsOf (nrOps ps).toArray 23 := List.contains_iff_mem.1 (by kernel_rfl)
theorem nr_d24_15 (ps : String) : 15 ∈ depsOf (nrOps ps).toArray 24 := List.contains_iff_mem.1 (by kernel_rfl)
theorem nr_d25_24 (ps : String) : 24 ∈ depsOf (nrOps ps).toArray 25 := List.contains_iff_mem.1 (by kernel_rfl)
theorem nr_d25_15 (ps : String) : 15 ∈ depsOf (nrOps ps).toArray 25 := List.contains_iff_mem.1 (by kernel_rfl)
theorem nr_d26_16 (ps : String) : 16 ∈ depsOf (nrOps ps).toArray 26 := List.contains_iff_mem.1 (by kernel_rfl)
theorem nr_d26_17 (ps : String) : 17 ∈ depsOf (nrOps ps).toArray 26 := List.contains_iff_mem.1 (by kernel_rfl)
theorem nr_d26_23 (ps : String) : 23 ∈ depsOf (nrOps ps).toArray 26 := List.contains_iff_mem.1 (by kernel_rfl)
theorem nr_d26_25 (ps : String) : 25 ∈ depsOf (nrOps ps).toArray 26 := List.contains_iff_mem.1 (by kernel_rfl)
theorem nr_d26_15 (ps : String) : 15 ∈ depsOf (nrOps ps).toArray 26 := List.contains_iff_mem.1 (by kernel_rfl)
theorem nr_d27_26 (ps : String) : 26 ∈ depsOf (nrOps ps).toArray 27 := List.contains_iff_mem.1 (by kernel_rfl)
theorem nr_d27_15 (ps : String) : 15 ∈ depsOf (nrOps ps).toArray 27 := List.contains_iff_mem.1 (by kernel_rfl)
theorem nr_d28_15 (ps : String) : 15 ∈ depsOf (nrOps ps).toArray 28 := List.contains_iff_mem.1 (by kernel_rfl)
theorem nr_d28_27 (ps : String) : 27 ∈ depsOf (nrOps ps).toArray 28 := List.contains_iff_mem.1 (by kernel_rfl)
theorem nr_d28_12 (ps : String) : 12 ∈ depsOf (nrOps ps).toArray 28 := List.contains_iff_mem.1 (by kernel_rfl)
theorem nr_d29_12 (ps : String) : 12 ∈ depsOf (nrOps ps).toArray 29 := List.contains_iff_mem.1 (by kernel_rfl)
theorem nr_d29_28 (ps : String) : 28 ∈ depsOf (nrOps ps).toArray 29 := List.contains_iff_mem.1 (by kernel_rfl)
def nrV (nx fr r1 r2 : Bool) (x3 x4 x5 x6 : Value) (g gm gs G2 b3 o3 n c3 j m : Nat) : Nat → Value
  | 0 => .pointer (some ⟨g, 1, none⟩)
  | 1 => .bool nx
  | 2 => .bool nx
  | 3 => if nx = true then .slice (some ⟨gm, 0, none⟩) n n else undef
  | 4 => if nx = true then .slice (some ⟨gs, 0, none⟩) n n else undef
  | 5 => if nx = true then .int .i64 (j : Int) else undef
  | 6 => if nx = true then .int .i64 ((j + 1 : Nat) : Int) else undef
  | 7 => if nx = true then .pointer (some ⟨g, 3, none⟩) else undef
  | 8 => if nx = true then .agg #[x3, x4] else undef
  | 9 => if nx = true then .bool r1 else undef
  | 10 => if nx = true then .bool (!r1) else undef
  | 11 => .bool (nx && !r1)
  | 12 => .bool (nx && !r1)
  | 13 => if (!(nx && !r1)) = true then .pointer (some ⟨g, 2, none⟩) else undef
  | 14 => if (!(nx && !r1)) = true then .bool fr else undef
  | 15 => if (!(nx && !r1)) = true then .bool fr else undef
  | 16 => if (!(nx && !r1) && fr) = true then .slice (some ⟨gm, 0, none⟩) n n else undef
  | 17 => if (!(nx && !r1) && fr) = true then .slice (some ⟨gs, 0, none⟩) n n else undef
  | 18 => if (!(nx && !r1) && fr) = true then .pointer (some ⟨G2, 3, none⟩) else undef
  | 19 => if (!(nx && !r1) && fr) = true then .slice (some ⟨b3, o3, none⟩) n c3 else undef
  | 20 => if (!(nx && !r1) && fr) = true then .int .i64 (j : Int) else undef
  | 21 => if (!(nx && !r1) && fr) = true then .pointer (some ⟨b3, o3 + j * 4, none⟩) else undef
  | 22 => if (!(nx && !r1) && fr) = true then .pointer (some ⟨b3, o3 + j * 4 + 1, none⟩) else undef
  | 23 => if (!(nx && !r1) && fr) = true then .int .i64 (m : Int) else undef
  | 24 => if (!(nx && !r1) && fr) = true then .pointer (some ⟨g, 5, none⟩) else undef
  | 25 => if (!(nx && !r1) && fr) = true then .agg #[x5, x6] else undef
  | 26 => if (!(nx && !r1) && fr) = true then .bool r2 else undef
  | 27 => if (!(nx && !r1) && fr) = true then .bool (!r2) else undef
  | 28 => if (!(nx && !r1)) = true then .bool (fr && !r2) else undef
  | _ => .bool ((nx && !r1) || (fr && !r2))
set_option maxRecDepth 20000 in
set_option maxHeartbeats 4000000 in
theorem nr_region {Q : Exit → Act → World → Prop} {id : Nat} {ps : String} {A : Array Value} {df : List Deferred} {V : World} (nx fr r1 r2 : Bool) (x3 x4 x5 x6 : Value) (g gm gs G2 b3 o3 n c3 j m : Nat) (Wi : Bool → Bool → World → Prop) (hA : 150 ≤ A.size) (hjn : j < n) (hnm : n ≤ 4096) (hc3 : n ≤ c3)
    (a2 : A[2]? = some (.pointer (some ⟨G2, 0, none⟩))) (a11 : A[11]? = some (.slice (some ⟨gm, 0, none⟩) n n)) (a13 : A[13]? = some (.slice (some ⟨gs, 0, none⟩) n n)) (a14 : A[14]? = some (.int .i64 (j : Int))) (a15 : A[15]? = some (.pointer (some ⟨g, 0, none⟩)))
    (h0 : Wi false false V.drew)
    (hS : ∀ F1 F2 w, Wi F1 F2 w → w.cell? ⟨g, 1, none⟩ = some (.bool nx) ∧ w.cell? ⟨g, 2, none⟩ = some (.bool fr) ∧ w.cell? ⟨g, 3, none⟩ = some x3 ∧ w.cell? ⟨g, 4, none⟩ = some x4 ∧ w.cell? ⟨g, 5, none⟩ = some x5 ∧ w.cell? ⟨g, 6, none⟩ = some x6 ∧ w.cell? ⟨G2, 3, none⟩ = some (.slice (some ⟨b3, o3, none⟩) n c3) ∧ w.cell? ⟨b3, o3 + j * 4 + 1, none⟩ = some (ci (m : Int)))
    (hc1 : nx = true → ∀ w, Wi false false w → Calls Tryz.prog 29 #[.slice (some ⟨gm, 0, none⟩) n n, .slice (some ⟨gs, 0, none⟩) n n, ci ((j + 1 : Nat) : Int), .agg #[x3, x4]] w fun e w' => e = .returned (.bool r1) ∧ Wi true false w')
    (hs1 : nx = false → ∀ w, Wi false false w → Wi true false w)
    (hc2 : (!(nx && !r1) && fr) = true → ∀ w, Wi true false w → Calls Tryz.prog 29 #[.slice (some ⟨gm, 0, none⟩) n n, .slice (some ⟨gs, 0, none⟩) n n, ci (m : Int), .agg #[x5, x6]] w fun e w' => e = .returned (.bool r2) ∧ Wi true true w')
    (hs2 : (!(nx && !r1) && fr) = false → ∀ w, Wi true false w → Wi true true w)
    (h : ∀ wx, Wi true true wx → Q .normal { tmps := putR 120 (nrV nx fr r1 r2 x3 x4 x5 x6 g gm gs G2 b3 o3 n c3 j m) [0, 1, 2, 3, 4, 5, 6, 7, 8, 9, 10, 11, 12, 13, 14, 15, 16, 17, 18, 19, 20, 21, 22, 23, 24, 25, 26, 27, 28, 29] A, defers := df } wx) :
    (Code.region id (nrOps ps).toArray true).wp Tryz.prog Q { tmps := A, defers := df } V := by
  refine region_tab 120 (nrV nx fr r1 r2 x3 x4 x5 x6 g gm gs G2 b3 o3 n c3 j m) 9 26 Wi (by kernel_rfl) (dst_all (by kernel_rfl)) hA (by decide) (by show 9 < 30; decide) (by show 26 < 30; decide) (fun f q q2 => q 12 9 (nr_d12_9 ps) (q 15 12 (nr_d15_12 ps) (q 26 15 (nr_d26_15 ps) q2))) (guard_all (by kernel_rfl)) h0 ?_ h
  intro k o T w F1 F2 ho hz hd hAT hw e1 e2
  obtain ⟨s1, s2, s3, s4, s5, s6, s7, s8⟩ := hS F1 F2 w hw
  have gA : ∀ (d : Nat) (v : Value), d < 120 → A[d]? = some v → T.getD d undef = v := fun d v hd hv => by rw [hAT d hd, Array.getD_eq_getD_getElem?, hv]; rfl
  have b2 := gA 2 _ (by decide) a2
  have b11 := gA 11 _ (by decide) a11
  have b13 := gA 13 _ (by decide) a13
  have b14 := gA 14 _ (by decide) a14
  have b15 := gA 15 _ (by decide) a15
  have hjn2 : (j : Int) < (n : Int) := by omega
  have hj0 : (0 : Int) ≤ (j : Int) := by omega
  obtain ⟨hw1, hw2⟩ := wrap_succ (a := j) (by omega)
  clear hAT gA hS a2 a11 a13 a14 a15 h0
  rcases k with _ | _ | _ | _ | _ | _ | _ | _ | _ | _ | _ | _ | _ | _ | _ | _ | _ | _ | _ | _ | _ | _ | _ | _ | _ | _ | _ | _ | _ | _ | k
  · obtain rfl := Option.some.inj (show some { dst := some 120, op := .fieldAddr 86 (.tmp 15) 1, type := 0, pos := ps, after := #[], guard := none } = some o from ho)
    clear hd
    refine ⟨fun hv K hK => ?_, fun hv => ?_⟩
    · go_simp
      exact hK w (by simpa using hw)
    · exact Bool.noConfusion (show true = false from hv)
  · obtain rfl := Option.some.inj (show some { dst := some 121, op := .load 4 (.tmp 120), type := 4, pos := ps, after := #[{ on := 0, ground := .data }], guard := none } = some o from ho)
    have f0 : T.getD 120 undef = nrV nx fr r1 r2 x3 x4 x5 x6 g gm gs G2 b3 o3 n c3 j m 0 := hd 0 (nr_d1_0 ps)
    clear hd
    refine ⟨fun hv K hK => ?_, fun hv => ?_⟩
    · simp only [nrV, reduceIte, Bool.not_true, Bool.not_false, Bool.and_true, Bool.and_false, Bool.true_and, Bool.false_and, Bool.true_eq_false, Bool.false_eq_true] at f0
      go_simp
      exact hK w (by simpa using hw)
    · exact Bool.noConfusion (show true = false from hv)
  · obtain rfl := Option.some.inj (show some { dst := some 122, op := .move (.tmp 121), type := 4, pos := ps, after := #[{ on := 1, ground := .data }], guard := none } = some o from ho)
    have f1 : T.getD 121 undef = nrV nx fr r1 r2 x3 x4 x5 x6 g gm gs G2 b3 o3 n c3 j m 1 := hd 1 (nr_d2_1 ps)
    clear hd
    refine ⟨fun hv K hK => ?_, fun hv => ?_⟩
    · simp only [nrV, reduceIte, Bool.not_true, Bool.not_false, Bool.and_true, Bool.and_false, Bool.true_and, Bool.false_and, Bool.true_eq_false, Bool.false_eq_true] at f1
      go_simp
      exact hK w (by simpa using hw)
    · exact Bool.noConfusion (show true = false from hv)
  · obtain rfl := Option.some.inj (show some { dst := some 123, op := .move (.tmp 11), type := 56, pos := ps, after := #[{ on := 2, ground := .guard }], guard := some (2, true) } = some o from ho)
    have f2 : T.getD 122 undef = nrV nx fr r1 r2 x3 x4 x5 x6 g gm gs G2 b3 o3 n c3 j m 2 := hd 2 (nr_d3_2 ps)
    clear hd
    cases nx
    · refine ⟨fun hv K hK => ?_, fun hv => ?_⟩
      · exact Bool.noConfusion (show false = true from hv)
      · exact ⟨rfl, by simpa using hw⟩
    · refine ⟨fun hv K hK => ?_, fun hv => ?_⟩
      · simp only [nrV, reduceIte, Bool.not_true, Bool.not_false, Bool.and_true, Bool.and_false, Bool.true_and, Bool.false_and, Bool.true_eq_false, Bool.false_eq_true] at f2
        go_simp
        exact hK w (by simpa using hw)
      · exact Bool.noConfusion (show true = false from hv)
  · obtain rfl := Option.some.inj (show some { dst := some 124, op := .move (.tmp 13), type := 57, pos := ps, after := #[{ on := 2, ground := .guard }], guard := some (2, true) } = some o from ho)
    have f2 : T.getD 122 undef = nrV nx fr r1 r2 x3 x4 x5 x6 g gm gs G2 b3 o3 n c3 j m 2 := hd 2 (nr_d4_2 ps)
    clear hd
    cases nx
    · refine ⟨fun hv K hK => ?_, fun hv => ?_⟩
      · exact Bool.noConfusion (show false = true from hv)
      · exact ⟨rfl, by simpa using hw⟩
    · refine ⟨fun hv K hK => ?_, fun hv => ?_⟩
      · simp only [nrV, reduceIte, Bool.not_true, Bool.not_false, Bool.and_true, Bool.and_false, Bool.true_and, Bool.false_and, Bool.true_eq_false, Bool.false_eq_true] at f2
        go_simp
        exact hK w (by simpa using hw)
      · exact Bool.noConfusion (show true = false from hv)
  · obtain rfl := Option.some.inj (show some { dst := some 125, op := .move (.tmp 14), type := 3, pos := ps, after := #[{ on := 2, ground := .guard }], guard := some (2, true) } = some o from ho)
    have f2 : T.getD 122 undef = nrV nx fr r1 r2 x3 x4 x5 x6 g gm gs G2 b3 o3 n c3 j m 2 := hd 2 (nr_d5_2 ps)
    clear hd
    cases nx
    · refine ⟨fun hv K hK => ?_, fun hv => ?_⟩
      · exact Bool.noConfusion (show false = true from hv)
      · exact ⟨rfl, by simpa using hw⟩
    · refine ⟨fun hv K hK => ?_, fun hv => ?_⟩
      · simp only [nrV, reduceIte, Bool.not_true, Bool.not_false, Bool.and_true, Bool.and_false, Bool.true_and, Bool.false_and, Bool.true_eq_false, Bool.false_eq_true] at f2
        go_simp
        exact hK w (by simpa using hw)
      · exact Bool.noConfusion (show true = false from hv)
  · obtain rfl := Option.some.inj (show some { dst := some 126, op := .binOp .add 3 (.tmp 125) (.const (.int .i64 1)) 3, type := 3, pos := ps, after := #[{ on := 5, ground := .data }, { on := 2, ground := .guard }], guard := some (2, true) } = some o from ho)
    have f5 : T.getD 125 undef = nrV nx fr r1 r2 x3 x4 x5 x6 g gm gs G2 b3 o3 n c3 j m 5 := hd 5 (nr_d6_5 ps)
    have f2 : T.getD 122 undef = nrV nx fr r1 r2 x3 x4 x5 x6 g gm gs G2 b3 o3 n c3 j m 2 := hd 2 (nr_d6_2 ps)
    clear hd
    cases nx
    · refine ⟨fun hv K hK => ?_, fun hv => ?_⟩
      · exact Bool.noConfusion (show false = true from hv)
      · exact ⟨rfl, by simpa using hw⟩
    · refine ⟨fun hv K hK => ?_, fun hv => ?_⟩
      · simp only [nrV, reduceIte, Bool.not_true, Bool.not_false, Bool.and_true, Bool.and_false, Bool.true_and, Bool.false_and, Bool.true_eq_false, Bool.false_eq_true] at f5 f2
        go_simp
        exact hK w (by simpa using hw)
      · exact Bool.noConfusion (show true = false from hv)
  · obtain rfl := Option.some.inj (show some { dst := some 127, op := .fieldAddr 86 (.tmp 15) 3, type := 0, pos := ps, after := #[{ on := 2, ground := .guard }], guard := some (2, true) } = some o from ho)
    have f2 : T.getD 122 undef = nrV nx fr r1 r2 x3 x4 x5 x6 g gm gs G2 b3 o3 n c3 j m 2 := hd 2 (nr_d7_2 ps)
    clear hd
    cases nx
    · refine ⟨fun hv K hK => ?_, fun hv => ?_⟩
      · exact Bool.noConfusion (show false = true from hv)
      · exact ⟨rfl, by simpa using hw⟩
    · refine ⟨fun hv K hK => ?_, fun hv => ?_⟩
      · simp only [nrV, reduceIte, Bool.not_true, Bool.not_false, Bool.and_true, Bool.and_false, Bool.true_and, Bool.false_and, Bool.true_eq_false, Bool.false_eq_true] at f2
        go_simp
        exact hK w (by simpa using hw)
      · exact Bool.noConfusion (show true = false from hv)
  · obtain rfl := Option.some.inj (show some { dst := some 128, op := .load 80 (.tmp 127), type := 80, pos := ps, after := #[{ on := 7, ground := .data }, { on := 2, ground := .guard }], guard := some (2, true) } = some o from ho)
    have f7 : T.getD 127 undef = nrV nx fr r1 r2 x3 x4 x5 x6 g gm gs G2 b3 o3 n c3 j m 7 := hd 7 (nr_d8_7 ps)
    have f2 : T.getD 122 undef = nrV nx fr r1 r2 x3 x4 x5 x6 g gm gs G2 b3 o3 n c3 j m 2 := hd 2 (nr_d8_2 ps)
    clear hd
    cases nx
    · refine ⟨fun hv K hK => ?_, fun hv => ?_⟩
      · exact Bool.noConfusion (show false = true from hv)
      · exact ⟨rfl, by simpa using hw⟩
    · refine ⟨fun hv K hK => ?_, fun hv => ?_⟩
      · simp only [nrV, reduceIte, Bool.not_true, Bool.not_false, Bool.and_true, Bool.and_false, Bool.true_and, Bool.false_and, Bool.true_eq_false, Bool.false_eq_true] at f7 f2
        go_simp
        exact hK w (by simpa using hw)
      · exact Bool.noConfusion (show true = false from hv)
  · obtain rfl := Option.some.inj (show some { dst := some 129, op := .call { callee := .value (.func 29), args := #[.tmp 123, .tmp 124, .tmp 126, .tmp 128], argTypes := #[56, 57, 3, 80] }, type := 4, pos := ps, after := #[{ on := 3, ground := .data }, { on := 4, ground := .data }, { on := 6, ground := .data }, { on := 8, ground := .data }, { on := 2, ground := .chain }, { on := 2, ground := .guard }], guard := some (2, true) } = some o from ho)
    have f3 : T.getD 123 undef = nrV nx fr r1 r2 x3 x4 x5 x6 g gm gs G2 b3 o3 n c3 j m 3 := hd 3 (nr_d9_3 ps)
    have f4 : T.getD 124 undef = nrV nx fr r1 r2 x3 x4 x5 x6 g gm gs G2 b3 o3 n c3 j m 4 := hd 4 (nr_d9_4 ps)
    have f6 : T.getD 126 undef = nrV nx fr r1 r2 x3 x4 x5 x6 g gm gs G2 b3 o3 n c3 j m 6 := hd 6 (nr_d9_6 ps)
    have f8 : T.getD 128 undef = nrV nx fr r1 r2 x3 x4 x5 x6 g gm gs G2 b3 o3 n c3 j m 8 := hd 8 (nr_d9_8 ps)
    have f2 : T.getD 122 undef = nrV nx fr r1 r2 x3 x4 x5 x6 g gm gs G2 b3 o3 n c3 j m 2 := hd 2 (nr_d9_2 ps)
    clear hd
    cases nx
    · refine ⟨fun hv K hK => ?_, fun hv => ?_⟩
      · exact Bool.noConfusion (show false = true from hv)
      · obtain ⟨rfl, rfl⟩ := e1 rfl
        exact ⟨rfl, hs1 rfl w hw⟩
    · refine ⟨fun hv K hK => ?_, fun hv => ?_⟩
      · simp only [nrV, reduceIte, Bool.not_true, Bool.not_false, Bool.and_true, Bool.and_false, Bool.true_and, Bool.false_and, Bool.true_eq_false, Bool.false_eq_true] at f3 f4 f6 f8 f2
        obtain ⟨rfl, rfl⟩ := e1 rfl
        go_simp
        refine (hc1 rfl w hw).mono ?_
        rintro e w' ⟨rfl, hw'⟩
        exact hK w' hw'
      · exact Bool.noConfusion (show true = false from hv)
  · obtain rfl := Option.some.inj (show some { dst := some 130, op := .unOp .not 4 (.tmp 129), type := 4, pos := ps, after := #[{ on := 9, ground := .data }, { on := 2, ground := .guard }], guard := some (2, true) } = some o from ho)
    have f9 : T.getD 129 undef = nrV nx fr r1 r2 x3 x4 x5 x6 g gm gs G2 b3 o3 n c3 j m 9 := hd 9 (nr_d10_9 ps)
    have f2 : T.getD 122 undef = nrV nx fr r1 r2 x3 x4 x5 x6 g gm gs G2 b3 o3 n c3 j m 2 := hd 2 (nr_d10_2 ps)
    clear hd
    cases nx
    · refine ⟨fun hv K hK => ?_, fun hv => ?_⟩
      · exact Bool.noConfusion (show false = true from hv)
      · exact ⟨rfl, by simpa using hw⟩
    · refine ⟨fun hv K hK => ?_, fun hv => ?_⟩
      · simp only [nrV, reduceIte, Bool.not_true, Bool.not_false, Bool.and_true, Bool.and_false, Bool.true_and, Bool.false_and, Bool.true_eq_false, Bool.false_eq_true] at f9 f2
        go_simp
        exact hK w (by simpa using hw)
      · exact Bool.noConfusion (show true = false from hv)
  · obtain rfl := Option.some.inj (show some { dst := some 131, op := .pick (.tmp 122) (.tmp 130) (.const (.bool false)), type := 4, pos := ps, after := #[{ on := 2, ground := .data }, { on := 10, ground := .data }], guard := none } = some o from ho)
    have f2 : T.getD 122 undef = nrV nx fr r1 r2 x3 x4 x5 x6 g gm gs G2 b3 o3 n c3 j m 2 := hd 2 (nr_d11_2 ps)
    have f10 : T.getD 130 undef = nrV nx fr r1 r2 x3 x4 x5 x6 g gm gs G2 b3 o3 n c3 j m 10 := hd 10 (nr_d11_10 ps)
    clear hd
    cases nx <;> cases r1
    · refine ⟨fun hv K hK => ?_, fun hv => ?_⟩
      · simp only [nrV, reduceIte, Bool.not_true, Bool.not_false, Bool.and_true, Bool.and_false, Bool.true_and, Bool.false_and, Bool.true_eq_false, Bool.false_eq_true] at f2 f10
        go_simp
        exact hK w (by simpa using hw)
      · exact Bool.noConfusion (show true = false from hv)
    · refine ⟨fun hv K hK => ?_, fun hv => ?_⟩
      · simp only [nrV, reduceIte, Bool.not_true, Bool.not_false, Bool.and_true, Bool.and_false, Bool.true_and, Bool.false_and, Bool.true_eq_false, Bool.false_eq_true] at f2 f10
        go_simp
        exact hK w (by simpa using hw)
      · exact Bool.noConfusion (show true = false from hv)
    · refine ⟨fun hv K hK => ?_, fun hv => ?_⟩
      · simp only [nrV, reduceIte, Bool.not_true, Bool.not_false, Bool.and_true, Bool.and_false, Bool.true_and, Bool.false_and, Bool.true_eq_false, Bool.false_eq_true] at f2 f10
        go_simp
        exact hK w (by simpa using hw)
      · exact Bool.noConfusion (show true = false from hv)
    · refine ⟨fun hv K hK => ?_, fun hv => ?_⟩
      · simp only [nrV, reduceIte, Bool.not_true, Bool.not_false, Bool.and_true, Bool.and_false, Bool.true_and, Bool.false_and, Bool.true_eq_false, Bool.false_eq_true] at f2 f10
        go_simp
        exact hK w (by simpa using hw)
      · exact Bool.noConfusion (show true = false from hv)
  · obtain rfl := Option.some.inj (show some { dst := some 132, op := .move (.tmp 131), type := 4, pos := ps, after := #[{ on := 11, ground := .data }, { on := 9, ground := .chain }], guard := none } = some o from ho)
    have f11 : T.getD 131 undef = nrV nx fr r1 r2 x3 x4 x5 x6 g gm gs G2 b3 o3 n c3 j m 11 := hd 11 (nr_d12_11 ps)
    have f9 : T.getD 129 undef = nrV nx fr r1 r2 x3 x4 x5 x6 g gm gs G2 b3 o3 n c3 j m 9 := hd 9 (nr_d12_9 ps)
    clear hd
    refine ⟨fun hv K hK => ?_, fun hv => ?_⟩
    · simp only [nrV, reduceIte, Bool.not_true, Bool.not_false, Bool.and_true, Bool.and_false, Bool.true_and, Bool.false_and, Bool.true_eq_false, Bool.false_eq_true] at f11 f9
      go_simp
      exact hK w (by simpa using hw)
    · exact Bool.noConfusion (show true = false from hv)
  · obtain rfl := Option.some.inj (show some { dst := some 133, op := .fieldAddr 86 (.tmp 15) 2, type := 0, pos := ps, after := #[{ on := 12, ground := .guard }], guard := some (12, false) } = some o from ho)
    have f12 : T.getD 132 undef = nrV nx fr r1 r2 x3 x4 x5 x6 g gm gs G2 b3 o3 n c3 j m 12 := hd 12 (nr_d13_12 ps)
    clear hd
    cases nx <;> cases r1
    · refine ⟨fun hv K hK => ?_, fun hv => ?_⟩
      · simp only [nrV, reduceIte, Bool.not_true, Bool.not_false, Bool.and_true, Bool.and_false, Bool.true_and, Bool.false_and, Bool.true_eq_false, Bool.false_eq_true] at f12
        go_simp
        exact hK w (by simpa using hw)
      · exact Bool.noConfusion (show true = false from hv)
    · refine ⟨fun hv K hK => ?_, fun hv => ?_⟩
      · simp only [nrV, reduceIte, Bool.not_true, Bool.not_false, Bool.and_true, Bool.and_false, Bool.true_and, Bool.false_and, Bool.true_eq_false, Bool.false_eq_true] at f12
        go_simp
        exact hK w (by simpa using hw)
      · exact Bool.noConfusion (show true = false from hv)
    · refine ⟨fun hv K hK => ?_, fun hv => ?_⟩
      · exact Bool.noConfusion (show false = true from hv)
      · exact ⟨rfl, by simpa using hw⟩
    · refine ⟨fun hv K hK => ?_, fun hv => ?_⟩
      · simp only [nrV, reduceIte, Bool.not_true, Bool.not_false, Bool.and_true, Bool.and_false, Bool.true_and, Bool.false_and, Bool.true_eq_false, Bool.false_eq_true] at f12
        go_simp
        exact hK w (by simpa using hw)
      · exact Bool.noConfusion (show true = false from hv)
  · obtain rfl := Option.some.inj (show some { dst := some 134, op := .load 4 (.tmp 133), type := 4, pos := ps, after := #[{ on := 13, ground := .data }, { on := 12, ground := .guard }], guard := some (12, false) } = some o from ho)
    have f13 : T.getD 133 undef = nrV nx fr r1 r2 x3 x4 x5 x6 g gm gs G2 b3 o3 n c3 j m 13 := hd 13 (nr_d14_13 ps)
    have f12 : T.getD 132 undef = nrV nx fr r1 r2 x3 x4 x5 x6 g gm gs G2 b3 o3 n c3 j m 12 := hd 12 (nr_d14_12 ps)
    clear hd
    cases nx <;> cases r1
    · refine ⟨fun hv K hK => ?_, fun hv => ?_⟩
      · simp only [nrV, reduceIte, Bool.not_true, Bool.not_false, Bool.and_true, Bool.and_false, Bool.true_and, Bool.false_and, Bool.true_eq_false, Bool.false_eq_true] at f13 f12
        go_simp
        exact hK w (by simpa using hw)
      · exact Bool.noConfusion (show true = false from hv)
    · refine ⟨fun hv K hK => ?_, fun hv => ?_⟩
      · simp only [nrV, reduceIte, Bool.not_true, Bool.not_false, Bool.and_true, Bool.and_false, Bool.true_and, Bool.false_and, Bool.true_eq_false, Bool.false_eq_true] at f13 f12
        go_simp
        exact hK w (by simpa using hw)
      · exact Bool.noConfusion (show true = false from hv)
    · refine ⟨fun hv K hK => ?_, fun hv => ?_⟩
      · exact Bool.noConfusion (show false = true from hv)
      · exact ⟨rfl, by simpa using hw⟩
    · refine ⟨fun hv K hK => ?_, fun hv => ?_⟩
      · simp only [nrV, reduceIte, Bool.not_true, Bool.not_false, Bool.and_true, Bool.and_false, Bool.true_and, Bool.false_and, Bool.true_eq_false, Bool.false_eq_true] at f13 f12
        go_simp
        exact hK w (by simpa using hw)
      · exact Bool.noConfusion (show true = false from hv)
  · obtain rfl := Option.some.inj (show some { dst := some 135, op := .move (.tmp 134), type := 4, pos := ps, after := #[{ on := 14, ground := .data }, { on := 12, ground := .chain }, { on := 12, ground := .guard }], guard := some (12, false) } = some o from ho)
    have f14 : T.getD 134 undef = nrV nx fr r1 r2 x3 x4 x5 x6 g gm gs G2 b3 o3 n c3 j m 14 := hd 14 (nr_d15_14 ps)
    have f12 : T.getD 132 undef = nrV nx fr r1 r2 x3 x4 x5 x6 g gm gs G2 b3 o3 n c3 j m 12 := hd 12 (nr_d15_12 ps)
    clear hd
    cases nx <;> cases r1
    · refine ⟨fun hv K hK => ?_, fun hv => ?_⟩
      · simp only [nrV, reduceIte, Bool.not_true, Bool.not_false, Bool.and_true, Bool.and_false, Bool.true_and, Bool.false_and, Bool.true_eq_false, Bool.false_eq_true] at f14 f12
        go_simp
        exact hK w (by simpa using hw)
      · exact Bool.noConfusion (show true = false from hv)
    · refine ⟨fun hv K hK => ?_, fun hv => ?_⟩
      · simp only [nrV, reduceIte, Bool.not_true, Bool.not_false, Bool.and_true, Bool.and_false, Bool.true_and, Bool.false_and, Bool.true_eq_false, Bool.false_eq_true] at f14 f12
        go_simp
        exact hK w (by simpa using hw)
      · exact Bool.noConfusion (show true = false from hv)
    · refine ⟨fun hv K hK => ?_, fun hv => ?_⟩
      · exact Bool.noConfusion (show false = true from hv)
      · exact ⟨rfl, by simpa using hw⟩
    · refine ⟨fun hv K hK => ?_, fun hv => ?_⟩
      · simp only [nrV, reduceIte, Bool.not_true, Bool.not_false, Bool.and_true, Bool.and_false, Bool.true_and, Bool.false_and, Bool.true_eq_false, Bool.false_eq_true] at f14 f12
        go_simp
        exact hK w (by simpa using hw)
      · exact Bool.noConfusion (show true = false from hv)
  · obtain rfl := Option.some.inj (show some { dst := some 136, op := .move (.tmp 11), type := 56, pos := ps, after := #[{ on := 15, ground := .guard }], guard := some (15, true) } = some o from ho)
    have f15 : T.getD 135 undef = nrV nx fr r1 r2 x3 x4 x5 x6 g gm gs G2 b3 o3 n c3 j m 15 := hd 15 (nr_d16_15 ps)
    clear hd
    cases nx <;> cases r1 <;> cases fr
    · refine ⟨fun hv K hK => ?_, fun hv => ?_⟩
      · exact Bool.noConfusion (show false = true from hv)
      · exact ⟨rfl, by simpa using hw⟩
    · refine ⟨fun hv K hK => ?_, fun hv => ?_⟩
      · simp only [nrV, reduceIte, Bool.not_true, Bool.not_false, Bool.and_true, Bool.and_false, Bool.true_and, Bool.false_and, Bool.true_eq_false, Bool.false_eq_true] at f15
        go_simp
        exact hK w (by simpa using hw)
      · exact Bool.noConfusion (show true = false from hv)
    · refine ⟨fun hv K hK => ?_, fun hv => ?_⟩
      · exact Bool.noConfusion (show false = true from hv)
      · exact ⟨rfl, by simpa using hw⟩
    · refine ⟨fun hv K hK => ?_, fun hv => ?_⟩
      · simp only [nrV, reduceIte, Bool.not_true, Bool.not_false, Bool.and_true, Bool.and_false, Bool.true_and, Bool.false_and, Bool.true_eq_false, Bool.false_eq_true] at f15
        go_simp
        exact hK w (by simpa using hw)
      · exact Bool.noConfusion (show true = false from hv)
    · refine ⟨fun hv K hK => ?_, fun hv => ?_⟩
      · exact Bool.noConfusion (show false = true from hv)
      · exact ⟨rfl, by simpa using hw⟩
    · refine ⟨fun hv K hK => ?_, fun hv => ?_⟩
      · exact Bool.noConfusion (show false = true from hv)
      · exact ⟨rfl, by simpa using hw⟩
    · refine ⟨fun hv K hK => ?_, fun hv => ?_⟩
      · exact Bool.noConfusion (show false = true from hv)
      · exact ⟨rfl, by simpa using hw⟩
    · refine ⟨fun hv K hK => ?_, fun hv => ?_⟩
      · simp only [nrV, reduceIte, Bool.not_true, Bool.not_false, Bool.and_true, Bool.and_false, Bool.true_and, Bool.false_and, Bool.true_eq_false, Bool.false_eq_true] at f15
        go_simp
        exact hK w (by simpa using hw)
      · exact Bool.noConfusion (show true = false from hv)
  · obtain rfl := Option.some.inj (show some { dst := some 137, op := .move (.tmp 13), type := 57, pos := ps, after := #[{ on := 15, ground := .guard }], guard := some (15, true) } = some o from ho)
    have f15 : T.getD 135 undef = nrV nx fr r1 r2 x3 x4 x5 x6 g gm gs G2 b3 o3 n c3 j m 15 := hd 15 (nr_d17_15 ps)
    clear hd
    cases nx <;> cases r1 <;> cases fr
    · refine ⟨fun hv K hK => ?_, fun hv => ?_⟩
      · exact Bool.noConfusion (show false = true from hv)
      · exact ⟨rfl, by simpa using hw⟩
    · refine ⟨fun hv K hK => ?_, fun hv => ?_⟩
      · simp only [nrV, reduceIte, Bool.not_true, Bool.not_false, Bool.and_true, Bool.and_false, Bool.true_and, Bool.false_and, Bool.true_eq_false, Bool.false_eq_true] at f15
        go_simp
        exact hK w (by simpa using hw)
      · exact Bool.noConfusion (show true = false from hv)
    · refine ⟨fun hv K hK => ?_, fun hv => ?_⟩
      · exact Bool.noConfusion (show false = true from hv)
      · exact ⟨rfl, by simpa using hw⟩
    · refine ⟨fun hv K hK => ?_, fun hv => ?_⟩
      · simp only [nrV, reduceIte, Bool.not_true, Bool.not_false, Bool.and_true, Bool.and_false, Bool.true_and, Bool.false_and, Bool.true_eq_false, Bool.false_eq_true] at f15
        go_simp
        exact hK w (by simpa using hw)
      · exact Bool.noConfusion (show true = false from hv)
    · refine ⟨fun hv K hK => ?_, fun hv => ?_⟩
      · exact Bool.noConfusion (show false = true from hv)
      · exact ⟨rfl, by simpa using hw⟩
    · refine ⟨fun hv K hK => ?_, fun hv => ?_⟩
      · exact Bool.noConfusion (show false = true from hv)
      · exact ⟨rfl, by simpa using hw⟩
    · refine ⟨fun hv K hK => ?_, fun hv => ?_⟩
      · exact Bool.noConfusion (show false = true from hv)
      · exact ⟨rfl, by simpa using hw⟩
    · refine ⟨fun hv K hK => ?_, fun hv => ?_⟩
      · simp only [nrV, reduceIte, Bool.not_true, Bool.not_false, Bool.and_true, Bool.and_false, Bool.true_and, Bool.false_and, Bool.true_eq_false, Bool.false_eq_true] at f15
        go_simp
        exact hK w (by simpa using hw)
      · exact Bool.noConfusion (show true = false from hv)
  · obtain rfl := Option.some.inj (show some { dst := some 138, op := .fieldAddr 27 (.tmp 2) 2, type := 0, pos := ps, after := #[{ on := 15, ground := .guard }], guard := some (15, true) } = some o from ho)
    have f15 : T.getD 135 undef = nrV nx fr r1 r2 x3 x4 x5 x6 g gm gs G2 b3 o3 n c3 j m 15 := hd 15 (nr_d18_15 ps)
    clear hd
    cases nx <;> cases r1 <;> cases fr
    · refine ⟨fun hv K hK => ?_, fun hv => ?_⟩
      · exact Bool.noConfusion (show false = true from hv)
      · exact ⟨rfl, by simpa using hw⟩
    · refine ⟨fun hv K hK => ?_, fun hv => ?_⟩
      · simp only [nrV, reduceIte, Bool.not_true, Bool.not_false, Bool.and_true, Bool.and_false, Bool.true_and, Bool.false_and, Bool.true_eq_false, Bool.false_eq_true] at f15
        go_simp
        exact hK w (by simpa using hw)
      · exact Bool.noConfusion (show true = false from hv)
    · refine ⟨fun hv K hK => ?_, fun hv => ?_⟩
      · exact Bool.noConfusion (show false = true from hv)
      · exact ⟨rfl, by simpa using hw⟩
    · refine ⟨fun hv K hK => ?_, fun hv => ?_⟩
      · simp only [nrV, reduceIte, Bool.not_true, Bool.not_false, Bool.and_true, Bool.and_false, Bool.true_and, Bool.false_and, Bool.true_eq_false, Bool.false_eq_true] at f15
        go_simp
        exact hK w (by simpa using hw)
      · exact Bool.noConfusion (show true = false from hv)
    · refine ⟨fun hv K hK => ?_, fun hv => ?_⟩
      · exact Bool.noConfusion (show false = true from hv)
      · exact ⟨rfl, by simpa using hw⟩
    · refine ⟨fun hv K hK => ?_, fun hv => ?_⟩
      · exact Bool.noConfusion (show false = true from hv)
      · exact ⟨rfl, by simpa using hw⟩
    · refine ⟨fun hv K hK => ?_, fun hv => ?_⟩
      · exact Bool.noConfusion (show false = true from hv)
      · exact ⟨rfl, by simpa using hw⟩
    · refine ⟨fun hv K hK => ?_, fun hv => ?_⟩
      · simp only [nrV, reduceIte, Bool.not_true, Bool.not_false, Bool.and_true, Bool.and_false, Bool.true_and, Bool.false_and, Bool.true_eq_false, Bool.false_eq_true] at f15
        go_simp
        exact hK w (by simpa using hw)
      · exact Bool.noConfusion (show true = false from hv)
  · obtain rfl := Option.some.inj (show some { dst := some 139, op := .load 25 (.tmp 138), type := 25, pos := ps, after := #[{ on := 18, ground := .data }, { on := 15, ground := .guard }], guard := some (15, true) } = some o from ho)
    have f18 : T.getD 138 undef = nrV nx fr r1 r2 x3 x4 x5 x6 g gm gs G2 b3 o3 n c3 j m 18 := hd 18 (nr_d19_18 ps)
    have f15 : T.getD 135 undef = nrV nx fr r1 r2 x3 x4 x5 x6 g gm gs G2 b3 o3 n c3 j m 15 := hd 15 (nr_d19_15 ps)
    clear hd
    cases nx <;> cases r1 <;> cases fr
    · refine ⟨fun hv K hK => ?_, fun hv => ?_⟩
      · exact Bool.noConfusion (show false = true from hv)
      · exact ⟨rfl, by simpa using hw⟩
    · refine ⟨fun hv K hK => ?_, fun hv => ?_⟩
      · simp only [nrV, reduceIte, Bool.not_true, Bool.not_false, Bool.and_true, Bool.and_false, Bool.true_and, Bool.false_and, Bool.true_eq_false, Bool.false_eq_true] at f18 f15
        go_simp
        exact hK w (by simpa using hw)
      · exact Bool.noConfusion (show true = false from hv)
    · refine ⟨fun hv K hK => ?_, fun hv => ?_⟩
      · exact Bool.noConfusion (show false = true from hv)
      · exact ⟨rfl, by simpa using hw⟩
    · refine ⟨fun hv K hK => ?_, fun hv => ?_⟩
      · simp only [nrV, reduceIte, Bool.not_true, Bool.not_false, Bool.and_true, Bool.and_false, Bool.true_and, Bool.false_and, Bool.true_eq_false, Bool.false_eq_true] at f18 f15
        go_simp
        exact hK w (by simpa using hw)
      · exact Bool.noConfusion (show true = false from hv)
    · refine ⟨fun hv K hK => ?_, fun hv => ?_⟩
      · exact Bool.noConfusion (show false = true from hv)
      · exact ⟨rfl, by simpa using hw⟩
    · refine ⟨fun hv K hK => ?_, fun hv => ?_⟩
      · exact Bool.noConfusion (show false = true from hv)
      · exact ⟨rfl, by simpa using hw⟩
    · refine ⟨fun hv K hK => ?_, fun hv => ?_⟩
      · exact Bool.noConfusion (show false = true from hv)
      · exact ⟨rfl, by simpa using hw⟩
    · refine ⟨fun hv K hK => ?_, fun hv => ?_⟩
      · simp only [nrV, reduceIte, Bool.not_true, Bool.not_false, Bool.and_true, Bool.and_false, Bool.true_and, Bool.false_and, Bool.true_eq_false, Bool.false_eq_true] at f18 f15
        go_simp
        exact hK w (by simpa using hw)
      · exact Bool.noConfusion (show true = false from hv)
  · obtain rfl := Option.some.inj (show some { dst := some 140, op := .move (.tmp 14), type := 3, pos := ps, after := #[{ on := 15, ground := .guard }], guard := some (15, true) } = some o from ho)
    have f15 : T.getD 135 undef = nrV nx fr r1 r2 x3 x4 x5 x6 g gm gs G2 b3 o3 n c3 j m 15 := hd 15 (nr_d20_15 ps)
    clear hd
    cases nx <;> cases r1 <;> cases fr
    · refine ⟨fun hv K hK => ?_, fun hv => ?_⟩
      · exact Bool.noConfusion (show false = true from hv)
      · exact ⟨rfl, by simpa using hw⟩
    · refine ⟨fun hv K hK => ?_, fun hv => ?_⟩
      · simp only [nrV, reduceIte, Bool.not_true, Bool.not_false, Bool.and_true, Bool.and_false, Bool.true_and, Bool.false_and, Bool.true_eq_false, Bool.false_eq_true] at f15
        go_simp
        exact hK w (by simpa using hw)
      · exact Bool.noConfusion (show true = false from hv)
    · refine ⟨fun hv K hK => ?_, fun hv => ?_⟩
      · exact Bool.noConfusion (show false = true from hv)
      · exact ⟨rfl, by simpa using hw⟩
    · refine ⟨fun hv K hK => ?_, fun hv => ?_⟩
      · simp only [nrV, reduceIte, Bool.not_true, Bool.not_false, Bool.and_true, Bool.and_false, Bool.true_and, Bool.false_and, Bool.true_eq_false, Bool.false_eq_true] at f15
        go_simp
        exact hK w (by simpa using hw)
      · exact Bool.noConfusion (show true = false from hv)
    · refine ⟨fun hv K hK => ?_, fun hv => ?_⟩
      · exact Bool.noConfusion (show false = true from hv)
      · exact ⟨rfl, by simpa using hw⟩
    · refine ⟨fun hv K hK => ?_, fun hv => ?_⟩
      · exact Bool.noConfusion (show false = true from hv)
      · exact ⟨rfl, by simpa using hw⟩
    · refine ⟨fun hv K hK => ?_, fun hv => ?_⟩
      · exact Bool.noConfusion (show false = true from hv)
      · exact ⟨rfl, by simpa using hw⟩
    · refine ⟨fun hv K hK => ?_, fun hv => ?_⟩
      · simp only [nrV, reduceIte, Bool.not_true, Bool.not_false, Bool.and_true, Bool.and_false, Bool.true_and, Bool.false_and, Bool.true_eq_false, Bool.false_eq_true] at f15
        go_simp
        exact hK w (by simpa using hw)
      · exact Bool.noConfusion (show true = false from hv)
  · obtain rfl := Option.some.inj (show some { dst := some 141, op := .indexAddr 25 (.tmp 139) (.tmp 140), type := 0, pos := ps, after := #[{ on := 19, ground := .data }, { on := 20, ground := .data }, { on := 15, ground := .guard }], guard := some (15, true) } = some o from ho)
    have f19 : T.getD 139 undef = nrV nx fr r1 r2 x3 x4 x5 x6 g gm gs G2 b3 o3 n c3 j m 19 := hd 19 (nr_d21_19 ps)
    have f20 : T.getD 140 undef = nrV nx fr r1 r2 x3 x4 x5 x6 g gm gs G2 b3 o3 n c3 j m 20 := hd 20 (nr_d21_20 ps)
    have f15 : T.getD 135 undef = nrV nx fr r1 r2 x3 x4 x5 x6 g gm gs G2 b3 o3 n c3 j m 15 := hd 15 (nr_d21_15 ps)
    clear hd
    cases nx <;> cases r1 <;> cases fr
    · refine ⟨fun hv K hK => ?_, fun hv => ?_⟩
      · exact Bool.noConfusion (show false = true from hv)
      · exact ⟨rfl, by simpa using hw⟩
    · refine ⟨fun hv K hK => ?_, fun hv => ?_⟩
      · simp only [nrV, reduceIte, Bool.not_true, Bool.not_false, Bool.and_true, Bool.and_false, Bool.true_and, Bool.false_and, Bool.true_eq_false, Bool.false_eq_true] at f19 f20 f15
        go_simp
        exact hK w (by simpa using hw)
      · exact Bool.noConfusion (show true = false from hv)
    · refine ⟨fun hv K hK => ?_, fun hv => ?_⟩
      · exact Bool.noConfusion (show false = true from hv)
      · exact ⟨rfl, by simpa using hw⟩
    · refine ⟨fun hv K hK => ?_, fun hv => ?_⟩
      · simp only [nrV, reduceIte, Bool.not_true, Bool.not_false, Bool.and_true, Bool.and_false, Bool.true_and, Bool.false_and, Bool.true_eq_false, Bool.false_eq_true] at f19 f20 f15
        go_simp
        exact hK w (by simpa using hw)
      · exact Bool.noConfusion (show true = false from hv)
    · refine ⟨fun hv K hK => ?_, fun hv => ?_⟩
      · exact Bool.noConfusion (show false = true from hv)
      · exact ⟨rfl, by simpa using hw⟩
    · refine ⟨fun hv K hK => ?_, fun hv => ?_⟩
      · exact Bool.noConfusion (show false = true from hv)
      · exact ⟨rfl, by simpa using hw⟩
    · refine ⟨fun hv K hK => ?_, fun hv => ?_⟩
      · exact Bool.noConfusion (show false = true from hv)
      · exact ⟨rfl, by simpa using hw⟩
    · refine ⟨fun hv K hK => ?_, fun hv => ?_⟩
      · simp only [nrV, reduceIte, Bool.not_true, Bool.not_false, Bool.and_true, Bool.and_false, Bool.true_and, Bool.false_and, Bool.true_eq_false, Bool.false_eq_true] at f19 f20 f15
        go_simp
        exact hK w (by simpa using hw)
      · exact Bool.noConfusion (show true = false from hv)
  · obtain rfl := Option.some.inj (show some { dst := some 142, op := .fieldAddr 84 (.tmp 141) 1, type := 0, pos := ps, after := #[{ on := 21, ground := .data }, { on := 15, ground := .guard }], guard := some (15, true) } = some o from ho)
    have f21 : T.getD 141 undef = nrV nx fr r1 r2 x3 x4 x5 x6 g gm gs G2 b3 o3 n c3 j m 21 := hd 21 (nr_d22_21 ps)
    have f15 : T.getD 135 undef = nrV nx fr r1 r2 x3 x4 x5 x6 g gm gs G2 b3 o3 n c3 j m 15 := hd 15 (nr_d22_15 ps)
    clear hd
    cases nx <;> cases r1 <;> cases fr
    · refine ⟨fun hv K hK => ?_, fun hv => ?_⟩
      · exact Bool.noConfusion (show false = true from hv)
      · exact ⟨rfl, by simpa using hw⟩
    · refine ⟨fun hv K hK => ?_, fun hv => ?_⟩
      · simp only [nrV, reduceIte, Bool.not_true, Bool.not_false, Bool.and_true, Bool.and_false, Bool.true_and, Bool.false_and, Bool.true_eq_false, Bool.false_eq_true] at f21 f15
        go_simp
        exact hK w (by simpa using hw)
      · exact Bool.noConfusion (show true = false from hv)
    · refine ⟨fun hv K hK => ?_, fun hv => ?_⟩
      · exact Bool.noConfusion (show false = true from hv)
      · exact ⟨rfl, by simpa using hw⟩
    · refine ⟨fun hv K hK => ?_, fun hv => ?_⟩
      · simp only [nrV, reduceIte, Bool.not_true, Bool.not_false, Bool.and_true, Bool.and_false, Bool.true_and, Bool.false_and, Bool.true_eq_false, Bool.false_eq_true] at f21 f15
        go_simp
        exact hK w (by simpa using hw)
      · exact Bool.noConfusion (show true = false from hv)
    · refine ⟨fun hv K hK => ?_, fun hv => ?_⟩
      · exact Bool.noConfusion (show false = true from hv)
      · exact ⟨rfl, by simpa using hw⟩
    · refine ⟨fun hv K hK => ?_, fun hv => ?_⟩
      · exact Bool.noConfusion (show false = true from hv)
      · exact ⟨rfl, by simpa using hw⟩
    · refine ⟨fun hv K hK => ?_, fun hv => ?_⟩
      · exact Bool.noConfusion (show false = true from hv)
      · exact ⟨rfl, by simpa using hw⟩
    · refine ⟨fun hv K hK => ?_, fun hv => ?_⟩
      · simp only [nrV, reduceIte, Bool.not_true, Bool.not_false, Bool.and_true, Bool.and_false, Bool.true_and, Bool.false_and, Bool.true_eq_false, Bool.false_eq_true] at f21 f15
        go_simp
        exact hK w (by simpa using hw)
      · exact Bool.noConfusion (show true = false from hv)
  · obtain rfl := Option.some.inj (show some { dst := some 143, op := .load 3 (.tmp 142), type := 3, pos := ps, after := #[{ on := 22, ground := .data }, { on := 15, ground := .guard }], guard := some (15, true) } = some o from ho)
    have f22 : T.getD 142 undef = nrV nx fr r1 r2 x3 x4 x5 x6 g gm gs G2 b3 o3 n c3 j m 22 := hd 22 (nr_d23_22 ps)
    have f15 : T.getD 135 undef = nrV nx fr r1 r2 x3 x4 x5 x6 g gm gs G2 b3 o3 n c3 j m 15 := hd 15 (nr_d23_15 ps)
    clear hd
    cases nx <;> cases r1 <;> cases fr
    · refine ⟨fun hv K hK => ?_, fun hv => ?_⟩
      · exact Bool.noConfusion (show false = true from hv)
      · exact ⟨rfl, by simpa using hw⟩
    · refine ⟨fun hv K hK => ?_, fun hv => ?_⟩
      · simp only [nrV, reduceIte, Bool.not_true, Bool.not_false, Bool.and_true, Bool.and_false, Bool.true_and, Bool.false_and, Bool.true_eq_false, Bool.false_eq_true] at f22 f15
        go_simp
        exact hK w (by simpa using hw)
      · exact Bool.noConfusion (show true = false from hv)
    · refine ⟨fun hv K hK => ?_, fun hv => ?_⟩
      · exact Bool.noConfusion (show false = true from hv)
      · exact ⟨rfl, by simpa using hw⟩
    · refine ⟨fun hv K hK => ?_, fun hv => ?_⟩
      · simp only [nrV, reduceIte, Bool.not_true, Bool.not_false, Bool.and_true, Bool.and_false, Bool.true_and, Bool.false_and, Bool.true_eq_false, Bool.false_eq_true] at f22 f15
        go_simp
        exact hK w (by simpa using hw)
      · exact Bool.noConfusion (show true = false from hv)
    · refine ⟨fun hv K hK => ?_, fun hv => ?_⟩
      · exact Bool.noConfusion (show false = true from hv)
      · exact ⟨rfl, by simpa using hw⟩
    · refine ⟨fun hv K hK => ?_, fun hv => ?_⟩
      · exact Bool.noConfusion (show false = true from hv)
      · exact ⟨rfl, by simpa using hw⟩
    · refine ⟨fun hv K hK => ?_, fun hv => ?_⟩
      · exact Bool.noConfusion (show false = true from hv)
      · exact ⟨rfl, by simpa using hw⟩
    · refine ⟨fun hv K hK => ?_, fun hv => ?_⟩
      · simp only [nrV, reduceIte, Bool.not_true, Bool.not_false, Bool.and_true, Bool.and_false, Bool.true_and, Bool.false_and, Bool.true_eq_false, Bool.false_eq_true] at f22 f15
        go_simp
        exact hK w (by simpa using hw)
      · exact Bool.noConfusion (show true = false from hv)
  · obtain rfl := Option.some.inj (show some { dst := some 144, op := .fieldAddr 86 (.tmp 15) 4, type := 0, pos := ps, after := #[{ on := 15, ground := .guard }], guard := some (15, true) } = some o from ho)
    have f15 : T.getD 135 undef = nrV nx fr r1 r2 x3 x4 x5 x6 g gm gs G2 b3 o3 n c3 j m 15 := hd 15 (nr_d24_15 ps)
    clear hd
    cases nx <;> cases r1 <;> cases fr
    · refine ⟨fun hv K hK => ?_, fun hv => ?_⟩
      · exact Bool.noConfusion (show false = true from hv)
      · exact ⟨rfl, by simpa using hw⟩
    · refine ⟨fun hv K hK => ?_, fun hv => ?_⟩
      · simp only [nrV, reduceIte, Bool.not_true, Bool.not_false, Bool.and_true, Bool.and_false, Bool.true_and, Bool.false_and, Bool.true_eq_false, Bool.false_eq_true] at f15
        go_simp
        exact hK w (by simpa using hw)
      · exact Bool.noConfusion (show true = false from hv)
    · refine ⟨fun hv K hK => ?_, fun hv => ?_⟩
      · exact Bool.noConfusion (show false = true from hv)
      · exact ⟨rfl, by simpa using hw⟩
    · refine ⟨fun hv K hK => ?_, fun hv => ?_⟩
      · simp only [nrV, reduceIte, Bool.not_true, Bool.not_false, Bool.and_true, Bool.and_false, Bool.true_and, Bool.false_and, Bool.true_eq_false, Bool.false_eq_true] at f15
        go_simp
        exact hK w (by simpa using hw)
      · exact Bool.noConfusion (show true = false from hv)
    · refine ⟨fun hv K hK => ?_, fun hv => ?_⟩
      · exact Bool.noConfusion (show false = true from hv)
      · exact ⟨rfl, by simpa using hw⟩
    · refine ⟨fun hv K hK => ?_, fun hv => ?_⟩
      · exact Bool.noConfusion (show false = true from hv)
      · exact ⟨rfl, by simpa using hw⟩
    · refine ⟨fun hv K hK => ?_, fun hv => ?_⟩
      · exact Bool.noConfusion (show false = true from hv)
      · exact ⟨rfl, by simpa using hw⟩
    · refine ⟨fun hv K hK => ?_, fun hv => ?_⟩
      · simp only [nrV, reduceIte, Bool.not_true, Bool.not_false, Bool.and_true, Bool.and_false, Bool.true_and, Bool.false_and, Bool.true_eq_false, Bool.false_eq_true] at f15
        go_simp
        exact hK w (by simpa using hw)
      · exact Bool.noConfusion (show true = false from hv)
  · obtain rfl := Option.some.inj (show some { dst := some 145, op := .load 80 (.tmp 144), type := 80, pos := ps, after := #[{ on := 24, ground := .data }, { on := 15, ground := .guard }], guard := some (15, true) } = some o from ho)
    have f24 : T.getD 144 undef = nrV nx fr r1 r2 x3 x4 x5 x6 g gm gs G2 b3 o3 n c3 j m 24 := hd 24 (nr_d25_24 ps)
    have f15 : T.getD 135 undef = nrV nx fr r1 r2 x3 x4 x5 x6 g gm gs G2 b3 o3 n c3 j m 15 := hd 15 (nr_d25_15 ps)
    clear hd
    cases nx <;> cases r1 <;> cases fr
    · refine ⟨fun hv K hK => ?_, fun hv => ?_⟩
      · exact Bool.noConfusion (show false = true from hv)
      · exact ⟨rfl, by simpa using hw⟩
    · refine ⟨fun hv K hK => ?_, fun hv => ?_⟩
      · simp only [nrV, reduceIte, Bool.not_true, Bool.not_false, Bool.and_true, Bool.and_false, Bool.true_and, Bool.false_and, Bool.true_eq_false, Bool.false_eq_true] at f24 f15
        go_simp
        exact hK w (by simpa using hw)
      · exact Bool.noConfusion (show true = false from hv)
    · refine ⟨fun hv K hK => ?_, fun hv => ?_⟩
      · exact Bool.noConfusion (show false = true from hv)
      · exact ⟨rfl, by simpa using hw⟩
    · refine ⟨fun hv K hK => ?_, fun hv => ?_⟩
      · simp only [nrV, reduceIte, Bool.not_true, Bool.not_false, Bool.and_true, Bool.and_false, Bool.true_and, Bool.false_and, Bool.true_eq_false, Bool.false_eq_true] at f24 f15
        go_simp
        exact hK w (by simpa using hw)
      · exact Bool.noConfusion (show true = false from hv)
    · refine ⟨fun hv K hK => ?_, fun hv => ?_⟩
      · exact Bool.noConfusion (show false = true from hv)
      · exact ⟨rfl, by simpa using hw⟩
    · refine ⟨fun hv K hK => ?_, fun hv => ?_⟩
      · exact Bool.noConfusion (show false = true from hv)
      · exact ⟨rfl, by simpa using hw⟩
    · refine ⟨fun hv K hK => ?_, fun hv => ?_⟩
      · exact Bool.noConfusion (show false = true from hv)
      · exact ⟨rfl, by simpa using hw⟩
    · refine ⟨fun hv K hK => ?_, fun hv => ?_⟩
      · simp only [nrV, reduceIte, Bool.not_true, Bool.not_false, Bool.and_true, Bool.and_false, Bool.true_and, Bool.false_and, Bool.true_eq_false, Bool.false_eq_true] at f24 f15
        go_simp
        exact hK w (by simpa using hw)
      · exact Bool.noConfusion (show true = false from hv)
  · obtain rfl := Option.some.inj (show some { dst := some 146, op := .call { callee := .value (.func 29), args := #[.tmp 136, .tmp 137, .tmp 143, .tmp 145], argTypes := #[56, 57, 3, 80] }, type := 4, pos := ps, after := #[{ on := 16, ground := .data }, { on := 17, ground := .data }, { on := 23, ground := .data }, { on := 25, ground := .data }, { on := 15, ground := .chain }, { on := 15, ground := .guard }], guard := some (15, true) } = some o from ho)
    have f16 : T.getD 136 undef = nrV nx fr r1 r2 x3 x4 x5 x6 g gm gs G2 b3 o3 n c3 j m 16 := hd 16 (nr_d26_16 ps)
    have f17 : T.getD 137 undef = nrV nx fr r1 r2 x3 x4 x5 x6 g gm gs G2 b3 o3 n c3 j m 17 := hd 17 (nr_d26_17 ps)
    have f23 : T.getD 143 undef = nrV nx fr r1 r2 x3 x4 x5 x6 g gm gs G2 b3 o3 n c3 j m 23 := hd 23 (nr_d26_23 ps)
    have f25 : T.getD 145 undef = nrV nx fr r1 r2 x3 x4 x5 x6 g gm gs G2 b3 o3 n c3 j m 25 := hd 25 (nr_d26_25 ps)
    have f15 : T.getD 135 undef = nrV nx fr r1 r2 x3 x4 x5 x6 g gm gs G2 b3 o3 n c3 j m 15 := hd 15 (nr_d26_15 ps)
    clear hd
    cases nx <;> cases r1 <;> cases fr
    · refine ⟨fun hv K hK => ?_, fun hv => ?_⟩
      · exact Bool.noConfusion (show false = true from hv)
      · obtain ⟨rfl, rfl⟩ := e2 rfl
        exact ⟨rfl, hs2 rfl w hw⟩
    · refine ⟨fun hv K hK => ?_, fun hv => ?_⟩
      · simp only [nrV, reduceIte, Bool.not_true, Bool.not_false, Bool.and_true, Bool.and_false, Bool.true_and, Bool.false_and, Bool.true_eq_false, Bool.false_eq_true] at f16 f17 f23 f25 f15
        obtain ⟨rfl, rfl⟩ := e2 rfl
        go_simp
        refine (hc2 rfl w hw).mono ?_
        rintro e w' ⟨rfl, hw'⟩
        exact hK w' hw'
      · exact Bool.noConfusion (show true = false from hv)
    · refine ⟨fun hv K hK => ?_, fun hv => ?_⟩
      · exact Bool.noConfusion (show false = true from hv)
      · obtain ⟨rfl, rfl⟩ := e2 rfl
        exact ⟨rfl, hs2 rfl w hw⟩
    · refine ⟨fun hv K hK => ?_, fun hv => ?_⟩
      · simp only [nrV, reduceIte, Bool.not_true, Bool.not_false, Bool.and_true, Bool.and_false, Bool.true_and, Bool.false_and, Bool.true_eq_false, Bool.false_eq_true] at f16 f17 f23 f25 f15
        obtain ⟨rfl, rfl⟩ := e2 rfl
        go_simp
        refine (hc2 rfl w hw).mono ?_
        rintro e w' ⟨rfl, hw'⟩
        exact hK w' hw'
      · exact Bool.noConfusion (show true = false from hv)
    · refine ⟨fun hv K hK => ?_, fun hv => ?_⟩
      · exact Bool.noConfusion (show false = true from hv)
      · obtain ⟨rfl, rfl⟩ := e2 rfl
        exact ⟨rfl, hs2 rfl w hw⟩
    · refine ⟨fun hv K hK => ?_, fun hv => ?_⟩
      · exact Bool.noConfusion (show false = true from hv)
      · obtain ⟨rfl, rfl⟩ := e2 rfl
        exact ⟨rfl, hs2 rfl w hw⟩
    · refine ⟨fun hv K hK => ?_, fun hv => ?_⟩
      · exact Bool.noConfusion (show false = true from hv)
      · obtain ⟨rfl, rfl⟩ := e2 rfl
        exact ⟨rfl, hs2 rfl w hw⟩
    · refine ⟨fun hv K hK => ?_, fun hv => ?_⟩
      · simp only [nrV, reduceIte, Bool.not_true, Bool.not_false, Bool.and_true, Bool.and_false, Bool.true_and, Bool.false_and, Bool.true_eq_false, Bool.false_eq_true] at f16 f17 f23 f25 f15
        obtain ⟨rfl, rfl⟩ := e2 rfl
        go_simp
        refine (hc2 rfl w hw).mono ?_
        rintro e w' ⟨rfl, hw'⟩
        exact hK w' hw'
      · exact Bool.noConfusion (show true = false from hv)
  · obtain rfl := Option.some.inj (show some { dst := some 147, op := .unOp .not 4 (.tmp 146), type := 4, pos := ps, after := #[{ on := 26, ground := .data }, { on := 15, ground := .guard }], guard := some (15, true) } = some o from ho)
    have f26 : T.getD 146 undef = nrV nx fr r1 r2 x3 x4 x5 x6 g gm gs G2 b3 o3 n c3 j m 26 := hd 26 (nr_d27_26 ps)
    have f15 : T.getD 135 undef = nrV nx fr r1 r2 x3 x4 x5 x6 g gm gs G2 b3 o3 n c3 j m 15 := hd 15 (nr_d27_15 ps)
    clear hd
    cases nx <;> cases r1 <;> cases fr
    · refine ⟨fun hv K hK => ?_, fun hv => ?_⟩
      · exact Bool.noConfusion (show false = true from hv)
      · exact ⟨rfl, by simpa using hw⟩
    · refine ⟨fun hv K hK => ?_, fun hv => ?_⟩
      · simp only [nrV, reduceIte, Bool.not_true, Bool.not_false, Bool.and_true, Bool.and_false, Bool.true_and, Bool.false_and, Bool.true_eq_false, Bool.false_eq_true] at f26 f15
        go_simp
        exact hK w (by simpa using hw)
      · exact Bool.noConfusion (show true = false from hv)
    · refine ⟨fun hv K hK => ?_, fun hv => ?_⟩
      · exact Bool.noConfusion (show false = true from hv)
      · exact ⟨rfl, by simpa using hw⟩
    · refine ⟨fun hv K hK => ?_, fun hv => ?_⟩
      · simp only [nrV, reduceIte, Bool.not_true, Bool.not_false, Bool.and_true, Bool.and_false, Bool.true_and, Bool.false_and, Bool.true_eq_false, Bool.false_eq_true] at f26 f15
        go_simp
        exact hK w (by simpa using hw)
      · exact Bool.noConfusion (show true = false from hv)
    · refine ⟨fun hv K hK => ?_, fun hv => ?_⟩
      · exact Bool.noConfusion (show false = true from hv)
      · exact ⟨rfl, by simpa using hw⟩
    · refine ⟨fun hv K hK => ?_, fun hv => ?_⟩
      · exact Bool.noConfusion (show false = true from hv)
      · exact ⟨rfl, by simpa using hw⟩
    · refine ⟨fun hv K hK => ?_, fun hv => ?_⟩
      · exact Bool.noConfusion (show false = true from hv)
      · exact ⟨rfl, by simpa using hw⟩
    · refine ⟨fun hv K hK => ?_, fun hv => ?_⟩
      · simp only [nrV, reduceIte, Bool.not_true, Bool.not_false, Bool.and_true, Bool.and_false, Bool.true_and, Bool.false_and, Bool.true_eq_false, Bool.false_eq_true] at f26 f15
        go_simp
        exact hK w (by simpa using hw)
      · exact Bool.noConfusion (show true = false from hv)
  · obtain rfl := Option.some.inj (show some { dst := some 148, op := .pick (.tmp 135) (.tmp 147) (.const (.bool false)), type := 4, pos := ps, after := #[{ on := 15, ground := .data }, { on := 27, ground := .data }, { on := 12, ground := .guard }], guard := some (12, false) } = some o from ho)
    have f15 : T.getD 135 undef = nrV nx fr r1 r2 x3 x4 x5 x6 g gm gs G2 b3 o3 n c3 j m 15 := hd 15 (nr_d28_15 ps)
    have f27 : T.getD 147 undef = nrV nx fr r1 r2 x3 x4 x5 x6 g gm gs G2 b3 o3 n c3 j m 27 := hd 27 (nr_d28_27 ps)
    have f12 : T.getD 132 undef = nrV nx fr r1 r2 x3 x4 x5 x6 g gm gs G2 b3 o3 n c3 j m 12 := hd 12 (nr_d28_12 ps)
    clear hd
    cases nx <;> cases r1 <;> cases fr <;> cases r2
    · refine ⟨fun hv K hK => ?_, fun hv => ?_⟩
      · simp only [nrV, reduceIte, Bool.not_true, Bool.not_false, Bool.and_true, Bool.and_false, Bool.true_and, Bool.false_and, Bool.true_eq_false, Bool.false_eq_true] at f15 f27 f12
        go_simp
        exact hK w (by simpa using hw)
      · exact Bool.noConfusion (show true = false from hv)
    · refine ⟨fun hv K hK => ?_, fun hv => ?_⟩
      · simp only [nrV, reduceIte, Bool.not_true, Bool.not_false, Bool.and_true, Bool.and_false, Bool.true_and, Bool.false_and, Bool.true_eq_false, Bool.false_eq_true] at f15 f27 f12
        go_simp
        exact hK w (by simpa using hw)
      · exact Bool.noConfusion (show true = false from hv)
    · refine ⟨fun hv K hK => ?_, fun hv => ?_⟩
      · simp only [nrV, reduceIte, Bool.not_true, Bool.not_false, Bool.and_true, Bool.and_false, Bool.true_and, Bool.false_and, Bool.true_eq_false, Bool.false_eq_true] at f15 f27 f12
        go_simp
        exact hK w (by simpa using hw)
      · exact Bool.noConfusion (show true = false from hv)
    · refine ⟨fun hv K hK => ?_, fun hv => ?_⟩
      · simp only [nrV, reduceIte, Bool.not_true, Bool.not_false, Bool.and_true, Bool.and_false, Bool.true_and, Bool.false_and, Bool.true_eq_false, Bool.false_eq_true] at f15 f27 f12
        go_simp
        exact hK w (by simpa using hw)
      · exact Bool.noConfusion (show true = false from hv)
    · refine ⟨fun hv K hK => ?_, fun hv => ?_⟩
      · simp only [nrV, reduceIte, Bool.not_true, Bool.not_false, Bool.and_true, Bool.and_false, Bool.true_and, Bool.false_and, Bool.true_eq_false, Bool.false_eq_true] at f15 f27 f12
        go_simp
        exact hK w (by simpa using hw)
      · exact Bool.noConfusion (show true = false from hv)
    · refine ⟨fun hv K hK => ?_, fun hv => ?_⟩
      · simp only [nrV, reduceIte, Bool.not_true, Bool.not_false, Bool.and_true, Bool.and_false, Bool.true_and, Bool.false_and, Bool.true_eq_false, Bool.false_eq_true] at f15 f27 f12
        go_simp
        exact hK w (by simpa using hw)
      · exact Bool.noConfusion (show true = false from hv)
    · refine ⟨fun hv K hK => ?_, fun hv => ?_⟩
      · simp only [nrV, reduceIte, Bool.not_true, Bool.not_false, Bool.and_true, Bool.and_false, Bool.true_and, Bool.false_and, Bool.true_eq_false, Bool.false_eq_true] at f15 f27 f12
        go_simp
        exact hK w (by simpa using hw)
      · exact Bool.noConfusion (show true = false from hv)
    · refine ⟨fun hv K hK => ?_, fun hv => ?_⟩
      · simp only [nrV, reduceIte, Bool.not_true, Bool.not_false, Bool.and_true, Bool.and_false, Bool.true_and, Bool.false_and, Bool.true_eq_false, Bool.false_eq_true] at f15 f27 f12
        go_simp
        exact hK w (by simpa using hw)
      · exact Bool.noConfusion (show true = false from hv)
    · refine ⟨fun hv K hK => ?_, fun hv => ?_⟩
      · exact Bool.noConfusion (show false = true from hv)
      · exact ⟨rfl, by simpa using hw⟩
    · refine ⟨fun hv K hK => ?_, fun hv => ?_⟩
      · exact Bool.noConfusion (show false = true from hv)
      · exact ⟨rfl, by simpa using hw⟩
    · refine ⟨fun hv K hK => ?_, fun hv => ?_⟩
      · exact Bool.noConfusion (show false = true from hv)
      · exact ⟨rfl, by simpa using hw⟩
    · refine ⟨fun hv K hK => ?_, fun hv => ?_⟩
      · exact Bool.noConfusion (show false = true from hv)
      · exact ⟨rfl, by simpa using hw⟩
    · refine ⟨fun hv K hK => ?_, fun hv => ?_⟩
      · simp only [nrV, reduceIte, Bool.not_true, Bool.not_false, Bool.and_true, Bool.and_false, Bool.true_and, Bool.false_and, Bool.true_eq_false, Bool.false_eq_true] at f15 f27 f12
        go_simp
        exact hK w (by simpa using hw)
      · exact Bool.noConfusion (show true = false from hv)
    · refine ⟨fun hv K hK => ?_, fun hv => ?_⟩
      · simp only [nrV, reduceIte, Bool.not_true, Bool.not_false, Bool.and_true, Bool.and_false, Bool.true_and, Bool.false_and, Bool.true_eq_false, Bool.false_eq_true] at f15 f27 f12
        go_simp
        exact hK w (by simpa using hw)
      · exact Bool.noConfusion (show true = false from hv)
    · refine ⟨fun hv K hK => ?_, fun hv => ?_⟩
      · simp only [nrV, reduceIte, Bool.not_true, Bool.not_false, Bool.and_true, Bool.and_false, Bool.true_and, Bool.false_and, Bool.true_eq_false, Bool.false_eq_true] at f15 f27 f12
        go_simp
        exact hK w (by simpa using hw)
      · exact Bool.noConfusion (show true = false from hv)
    · refine ⟨fun hv K hK => ?_, fun hv => ?_⟩
      · simp only [nrV, reduceIte, Bool.not_true, Bool.not_false, Bool.and_true, Bool.and_false, Bool.true_and, Bool.false_and, Bool.true_eq_false, Bool.false_eq_true] at f15 f27 f12
        go_simp
        exact hK w (by simpa using hw)
      · exact Bool.noConfusion (show true = false from hv)
  · obtain rfl := Option.some.inj (show some { dst := some 149, op := .pick (.tmp 132) (.const (.bool true)) (.tmp 148), type := 4, pos := ps, after := #[{ on := 12, ground := .data }, { on := 28, ground := .data }], guard := none } = some o from ho)
    have f12 : T.getD 132 undef = nrV nx fr r1 r2 x3 x4 x5 x6 g gm gs G2 b3 o3 n c3 j m 12 := hd 12 (nr_d29_12 ps)
    have f28 : T.getD 148 undef = nrV nx fr r1 r2 x3 x4 x5 x6 g gm gs G2 b3 o3 n c3 j m 28 := hd 28 (nr_d29_28 ps)
    clear hd
    cases nx <;> cases r1 <;> cases fr <;> cases r2
    · refine ⟨fun hv K hK => ?_, fun hv => ?_⟩
      · simp only [nrV, reduceIte, Bool.not_true, Bool.not_false, Bool.and_true, Bool.and_false, Bool.true_and, Bool.false_and, Bool.true_eq_false, Bool.false_eq_true] at f12 f28
        go_simp
        exact hK w (by simpa using hw)
      · exact Bool.noConfusion (show true = false from hv)
    · refine ⟨fun hv K hK => ?_, fun hv => ?_⟩
      · simp only [nrV, reduceIte, Bool.not_true, Bool.not_false, Bool.and_true, Bool.and_false, Bool.true_and, Bool.false_and, Bool.true_eq_false, Bool.false_eq_true] at f12 f28
        go_simp
        exact hK w (by simpa using hw)
      · exact Bool.noConfusion (show true = false from hv)
    · refine ⟨fun hv K hK => ?_, fun hv => ?_⟩
      · simp only [nrV, reduceIte, Bool.not_true, Bool.not_false, Bool.and_true, Bool.and_false, Bool.true_and, Bool.false_and, Bool.true_eq_false, Bool.false_eq_true] at f12 f28
        go_simp
        exact hK w (by simpa using hw)
      · exact Bool.noConfusion (show true = false from hv)
    · refine ⟨fun hv K hK => ?_, fun hv => ?_⟩
      · simp only [nrV, reduceIte, Bool.not_true, Bool.not_false, Bool.and_true, Bool.and_false, Bool.true_and, Bool.false_and, Bool.true_eq_false, Bool.false_eq_true] at f12 f28
        go_simp
        exact hK w (by simpa using hw)
      · exact Bool.noConfusion (show true = false from hv)
    · refine ⟨fun hv K hK => ?_, fun hv => ?_⟩
      · simp only [nrV, reduceIte, Bool.not_true, Bool.not_false, Bool.and_true, Bool.and_false, Bool.true_and, Bool.false_and, Bool.true_eq_false, Bool.false_eq_true] at f12 f28
        go_simp
        exact hK w (by simpa using hw)
      · exact Bool.noConfusion (show true = false from hv)
    · refine ⟨fun hv K hK => ?_, fun hv => ?_⟩
      · simp only [nrV, reduceIte, Bool.not_true, Bool.not_false, Bool.and_true, Bool.and_false, Bool.true_and, Bool.false_and, Bool.true_eq_false, Bool.false_eq_true] at f12 f28
        go_simp
        exact hK w (by simpa using hw)
      · exact Bool.noConfusion (show true = false from hv)
    · refine ⟨fun hv K hK => ?_, fun hv => ?_⟩
      · simp only [nrV, reduceIte, Bool.not_true, Bool.not_false, Bool.and_true, Bool.and_false, Bool.true_and, Bool.false_and, Bool.true_eq_false, Bool.false_eq_true] at f12 f28
        go_simp
        exact hK w (by simpa using hw)
      · exact Bool.noConfusion (show true = false from hv)
    · refine ⟨fun hv K hK => ?_, fun hv => ?_⟩
      · simp only [nrV, reduceIte, Bool.not_true, Bool.not_false, Bool.and_true, Bool.and_false, Bool.true_and, Bool.false_and, Bool.true_eq_false, Bool.false_eq_true] at f12 f28
        go_simp
        exact hK w (by simpa using hw)
      · exact Bool.noConfusion (show true = false from hv)
    · refine ⟨fun hv K hK => ?_, fun hv => ?_⟩
      · simp only [nrV, reduceIte, Bool.not_true, Bool.not_false, Bool.and_true, Bool.and_false, Bool.true_and, Bool.false_and, Bool.true_eq_false, Bool.false_eq_true] at f12 f28
        go_simp
        exact hK w (by simpa using hw)
      · exact Bool.noConfusion (show true = false from hv)
    · refine ⟨fun hv K hK => ?_, fun hv => ?_⟩
      · simp only [nrV, reduceIte, Bool.not_true, Bool.not_false, Bool.and_true, Bool.and_false, Bool.true_and, Bool.false_and, Bool.true_eq_false, Bool.false_eq_true] at f12 f28
        go_simp
        exact hK w (by simpa using hw)
      · exact Bool.noConfusion (show true = false from hv)
    · refine ⟨fun hv K hK => ?_, fun hv => ?_⟩
      · simp only [nrV, reduceIte, Bool.not_true, Bool.not_false, Bool.and_true, Bool.and_false, Bool.true_and, Bool.false_and, Bool.true_eq_false, Bool.false_eq_true] at f12 f28
        go_simp
        exact hK w (by simpa using hw)
      · exact Bool.noConfusion (show true = false from hv)
    · refine ⟨fun hv K hK => ?_, fun hv => ?_⟩
      · simp only [nrV, reduceIte, Bool.not_true, Bool.not_false, Bool.and_true, Bool.and_false, Bool.true_and, Bool.false_and, Bool.true_eq_false, Bool.false_eq_true] at f12 f28
        go_simp
        exact hK w (by simpa using hw)
      · exact Bool.noConfusion (show true = false from hv)
    · refine ⟨fun hv K hK => ?_, fun hv => ?_⟩
      · simp only [nrV, reduceIte, Bool.not_true, Bool.not_false, Bool.and_true, Bool.and_false, Bool.true_and, Bool.false_and, Bool.true_eq_false, Bool.false_eq_true] at f12 f28
        go_simp
        exact hK w (by simpa using hw)
      · exact Bool.noConfusion (show true = false from hv)
    · refine ⟨fun hv K hK => ?_, fun hv => ?_⟩
      · simp only [nrV, reduceIte, Bool.not_true, Bool.not_false, Bool.and_true, Bool.and_false, Bool.true_and, Bool.false_and, Bool.true_eq_false, Bool.false_eq_true] at f12 f28
        go_simp
        exact hK w (by simpa using hw)
      · exact Bool.noConfusion (show true = false from hv)
    · refine ⟨fun hv K hK => ?_, fun hv => ?_⟩
      · simp only [nrV, reduceIte, Bool.not_true, Bool.not_false, Bool.and_true, Bool.and_false, Bool.true_and, Bool.false_and, Bool.true_eq_false, Bool.false_eq_true] at f12 f28
        go_simp
        exact hK w (by simpa using hw)
      · exact Bool.noConfusion (show true = false from hv)
    · refine ⟨fun hv K hK => ?_, fun hv => ?_⟩
      · simp only [nrV, reduceIte, Bool.not_true, Bool.not_false, Bool.and_true, Bool.and_false, Bool.true_and, Bool.false_and, Bool.true_eq_false, Bool.false_eq_true] at f12 f28
        go_simp
        exact hK w (by simpa using hw)
      · exact Bool.noConfusion (show true = false from hv)
  · exact absurd ho (by simp [nrOps])
end Go.Proofs.YtnmcehpdiopaiaaGreatDoor.Cd
