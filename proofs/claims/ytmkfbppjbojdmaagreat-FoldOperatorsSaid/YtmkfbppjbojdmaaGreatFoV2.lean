/- FoldOperators. -/
import Derived.Test.YtmkfbppjbojdmaaGreatFoR2
import Derived.Test.YtmkfbppjbojdmaaGreatFoH
namespace Go.Proofs.YtmkfbppjbojdmaaGreat.Fo
open Go.RowKit Te
set_option linter.unusedSimpArgs false
set_option linter.unusedVariables false

set_option maxRecDepth 20000 in
set_option maxHeartbeats 4000000 in
theorem operators_any (op ta va tb vb trap : Int) (ha : U64 va) (hb : U64 vb) (w : World) : Calls Tryz.prog 3 #[ci op, vv (ta, va), vv (tb, vb), ci trap] w fun e w' => e = .returned (.bool true) ∧ Fr FN w w' := by
  have k1 := un_any op (ta, va) ha
  have k2 := run_any op (ta, va) ha
  have k3 := bin_any op (ta, va) (tb, vb) ha hb
  have k4 := rbin_any op (ta, va) (tb, vb) ha hb
  have k5 := errno_any trap
  have k6 := rerrno_any trap
  generalize unF op (ta, va) = R1 at k1 k2
  obtain ⟨⟨t1, v1⟩, q1⟩ := R1
  generalize binF op (ta, va) (tb, vb) = R2 at k3 k4
  obtain ⟨⟨t2, v2⟩, q2⟩ := R2
  generalize errnoF trap = E at k5 k6
  dsimp only [vv] at k1 k2 k3 k4 ⊢
  have qA_0 : Hidden (((w.alloc (zb (ci ta) (.int .u64 va))).alloc (zb (ci tb) (.int .u64 vb))).heap[w.heap.size]? = some (zb (ci ta) (.int .u64 va))) := (alloc_old _ _ _ (by simp)).trans (alloc_new _ _)
  have qB_0 : Hidden (((w.alloc (zb (ci ta) (.int .u64 va))).alloc (zb (ci tb) (.int .u64 vb))).heap[w.heap.size + 1]? = some (zb (ci tb) (.int .u64 vb))) := alloc_at _ _ _ (by simp)
  have g0 : Fr FN w ((w.alloc (zb (ci ta) (.int .u64 va))).alloc (zb (ci tb) (.int .u64 vb))) := (Fr.alloc _ _ _).same (Fr.alloc _ _ _)
  clear ha hb
  go_enter Tryz.func3, Tryz.ntmps3
  go_wp2_with fail
  go_at_call 4
  refine (k1 _).mono ?_
  rintro e u1 ⟨rfl, f1⟩
  have h1 := f1.same (Fr.alloc FN u1 (zb (ci t1) (.int .u64 v1)))
  have qA_1 := h1.heap qA_0 (fun f => f)
  obtain ⟨cA_1, eA_1, _, _⟩ := box2 qA_1
  have qB_1 := h1.heap qB_0 (fun f => f)
  obtain ⟨cB_1, eB_1, _, _⟩ := box2 qB_1
  have qu_1 : Hidden ((u1.alloc (zb (ci t1) (.int .u64 v1))).heap[u1.heap.size]? = some (zb (ci t1) (.int .u64 v1))) := alloc_new _ _
  have g1 := g0.same h1
  go_wp2_with fail
  go_at_call 5
  refine (k2 _).mono ?_
  rintro e u2 ⟨rfl, f2⟩
  have h2 := f2.same (Fr.alloc FN u2 (zb (ci t1) (.int .u64 v1)))
  have qA_2 := h2.heap qA_1 (fun f => f)
  obtain ⟨cA_2, eA_2, _, _⟩ := box2 qA_2
  have qB_2 := h2.heap qB_1 (fun f => f)
  obtain ⟨cB_2, eB_2, _, _⟩ := box2 qB_2
  have qu_2 := h2.heap qu_1 (fun f => f)
  obtain ⟨cu_2, eu_2, _, _⟩ := box2 qu_2
  have qv_2 : Hidden ((u2.alloc (zb (ci t1) (.int .u64 v1))).heap[u2.heap.size]? = some (zb (ci t1) (.int .u64 v1))) := alloc_new _ _
  have g2 := g1.same h2
  go_wp2_with fail
  go_at_call 6
  refine (k3 _).mono ?_
  rintro e u3 ⟨rfl, f3⟩
  have h3 := f3.same (Fr.alloc FN u3 (zb (ci t2) (.int .u64 v2)))
  have qA_3 := h3.heap qA_2 (fun f => f)
  obtain ⟨cA_3, eA_3, _, _⟩ := box2 qA_3
  have qB_3 := h3.heap qB_2 (fun f => f)
  obtain ⟨cB_3, eB_3, _, _⟩ := box2 qB_3
  have qu_3 := h3.heap qu_2 (fun f => f)
  obtain ⟨cu_3, eu_3, _, _⟩ := box2 qu_3
  have qv_3 := h3.heap qv_2 (fun f => f)
  obtain ⟨cv_3, ev_3, _, _⟩ := box2 qv_3
  have qx_3 : Hidden ((u3.alloc (zb (ci t2) (.int .u64 v2))).heap[u3.heap.size]? = some (zb (ci t2) (.int .u64 v2))) := alloc_new _ _
  have g3 := g2.same h3
  go_wp2_with fail
  go_at_call 7
  refine (k4 _).mono ?_
  rintro e u4 ⟨rfl, f4⟩
  have h4 := f4.same (Fr.alloc FN u4 (zb (ci t2) (.int .u64 v2)))
  have qA_4 := h4.heap qA_3 (fun f => f)
  obtain ⟨cA_4, eA_4, _, _⟩ := box2 qA_4
  have qB_4 := h4.heap qB_3 (fun f => f)
  obtain ⟨cB_4, eB_4, _, _⟩ := box2 qB_4
  have qu_4 := h4.heap qu_3 (fun f => f)
  obtain ⟨cu_4, eu_4, _, _⟩ := box2 qu_4
  have qv_4 := h4.heap qv_3 (fun f => f)
  obtain ⟨cv_4, ev_4, _, _⟩ := box2 qv_4
  have qx_4 := h4.heap qx_3 (fun f => f)
  obtain ⟨cx_4, ex_4, _, _⟩ := box2 qx_4
  have qy_4 : Hidden ((u4.alloc (zb (ci t2) (.int .u64 v2))).heap[u4.heap.size]? = some (zb (ci t2) (.int .u64 v2))) := alloc_new _ _
  have g4 := g3.same h4
  go_wp2_with (first
    | (go_at_call 8; refine (k5 _).mono ?_; rintro e w5 ⟨rfl, hw⟩; rw [hw]; clear hw)
    | (go_at_call 9; refine (k6 _).mono ?_; rintro e w6 ⟨rfl, hw⟩; rw [hw]; clear hw)
    | (go_at_call 10; refine (alive_any _).mono ?_; rintro e w7 ⟨rfl, f7⟩))
  go_ret
  exact ⟨rfl, g4.same f7⟩
end Go.Proofs.YtmkfbppjbojdmaaGreat.Fo
namespace Go.Proofs.YtmkfbppjbojdmaaGreat.foldOperators
theorem walk (op ta va tb vb trap : Int) (W : World) (_h0 : (Lit.int .i64 op).wf = true) (h1 : Ty.I64 ta ∧ Ty.U64 va) (h2 : Ty.I64 tb ∧ Ty.U64 vb) (_h3 : (Lit.int .i64 trap).wf = true) : Calls Tryz.prog 3 #[.int .i64 op, .agg #[.int .i64 ta, .int .u64 va], .agg #[.int .i64 tb, .int .u64 vb], .int .i64 trap] W fun e w' => e = .returned (.bool true) ∧ Fr (fun _ => False) W w' :=
  Fo.operators_any op ta va tb vb trap h1.2 h2.2 W
end Go.Proofs.YtmkfbppjbojdmaaGreat.foldOperators
