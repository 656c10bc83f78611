/- FoldLaws. -/
import Derived.Test.YtmkfbppjbojdmaaFoH
import Derived.Deep.LoopGhost
namespace Go.Proofs.Ytmkfbppjbojdmaa.Fo
open Go.RowKit Te
set_option linter.unusedSimpArgs false
set_option linter.unusedVariables false

theorem binI (op a b : Int) (ha : I64 a) (hb : I64 b) (h : (Ty.binS op 1 1).2 = 0) : binF op (1, IntKind.u64.wrap a) (1, IntKind.u64.wrap b) = intsF op a b := by
  rw [binF_yes (a := (1, IntKind.u64.wrap a)) (b := (1, IntKind.u64.wrap b)) h rfl rfl, if_pos rfl, wrap_back a ha, wrap_back b hb]
theorem int_comm1 (a b : Int) : intsF 1 a b = intsF 1 b a := by simp only [intsF, if_true]; rw [Int.add_comm]
theorem int_comm3 (a b : Int) : intsF 3 a b = intsF 3 b a := by
  show wholeF (Z.fitV (a * b)) (Z.fitE (a * b)) = wholeF (Z.fitV (b * a)) (Z.fitE (b * a))
  rw [Int.mul_comm]
theorem int_8 (a b : Int) : intsF 8 a b = ((3, if a < b then 1 else 0), 0) := by
  show (truthF (decide (Z.cmpS a b < 0)), (0 : Int)) = _
  unfold Z.cmpS truthF
  by_cases h : a < b
  · simp [h]
  · by_cases h2 : b < a <;> simp [h, h2]
theorem int_11 (a b : Int) : intsF 11 a b = ((3, if a < b then 0 else 1), 0) := by
  show (truthF (decide (0 ≤ Z.cmpS a b)), (0 : Int)) = _
  unfold Z.cmpS truthF
  by_cases h : a < b
  · simp [h]
  · by_cases h2 : b < a <;> simp [h, h2]
theorem int_4 (a b : Int) : intsF 4 a b = if b = 0 then ((0, 0), 2) else if a = -9223372036854775808 ∧ b = -1 then ((0, 0), 1) else ((1, IntKind.u64.wrap (a.tdiv b)), 0) := by
  show wholeF (Z.divV a b) (Z.divE a b) = _
  unfold Z.divV Z.divE
  by_cases h : b = 0
  · rw [if_pos h, if_pos h, if_pos h]; rfl
  · rw [if_neg h, if_neg h, if_neg h]
    by_cases h2 : a = -9223372036854775808 ∧ b = -1
    · rw [if_pos h2, if_pos h2, if_pos h2]; rfl
    · rw [if_neg h2, if_neg h2, if_neg h2]; rfl
theorem int_5 (a b : Int) : intsF 5 a b = if b = 0 then ((0, 0), 2) else ((1, IntKind.u64.wrap (a.tmod b)), 0) := by
  show wholeF (Z.remV a b) (Z.remE b) = _
  unfold Z.remV Z.remE
  by_cases h : b = 0
  · rw [if_pos h, if_pos h, if_pos h]; rfl
  · rw [if_neg h, if_neg h, if_neg h]; rfl
theorem back_sum (a b : Int) : a.tdiv b * b + a.tmod b = a := by
  rw [Int.mul_comm]
  exact Int.mul_tdiv_add_tmod a b
theorem back_fit (a b : Int) (ha : I64 a) : I64 (a.tdiv b * b) := by
  have h1 := back_sum a b
  have h2 := Z.tmod_sign a b
  have hd : (a.tdiv b * b).natAbs ≤ a.natAbs := by
    rw [Int.natAbs_mul, Int.natAbs_tdiv]
    exact Nat.div_mul_le_self _ _
  have hM : (a.tmod b).natAbs ≤ a.natAbs := by
    rw [Int.natAbs_tmod]
    exact Nat.mod_le _ _
  obtain ⟨h3, h4⟩ := (show Z.I64 a from ha)
  show Z.I64 _
  generalize a.tdiv b * b = P at *
  generalize a.tmod b = M at *
  rcases Int.le_total 0 a with h | h
  · have := h2.1 h; constructor <;> omega
  · have := h2.2 h; constructor <;> omega
theorem int_3 (q b : Int) (h : I64 (q * b)) : intsF 3 q b = ((1, IntKind.u64.wrap (q * b)), 0) := by
  show wholeF (Z.fitV (q * b)) (Z.fitE (q * b)) = _
  rw [(Z.fitV_in h).1, (Z.fitV_in h).2]; rfl
theorem int_1 (p r : Int) (h : I64 (p + r)) : intsF 1 p r = ((1, IntKind.u64.wrap (p + r)), 0) := by
  show wholeF (Z.fitV (p + r)) (Z.fitE (p + r)) = _
  rw [(Z.fitV_in h).1, (Z.fitV_in h).2]; rfl
set_option maxRecDepth 20000 in
set_option maxHeartbeats 4000000 in
theorem laws_zero_lt (a b : Int) (ha : I64 a) (hb : I64 b) (h0 : b = 0) (hlt : a < b) (w : World) : Calls Try.prog 4 #[ci a, ci b] w fun e w' => e = .returned (.bool true) ∧ Fr FN w w' := by
  have kx := lw_any a
  have ky := lw_any b
  dsimp only [vv] at kx ky
  have c1 := bin_any 1 (1, IntKind.u64.wrap a) (1, IntKind.u64.wrap b) (uwrapU _) (uwrapU _)
  have c2 := bin_any 1 (1, IntKind.u64.wrap b) (1, IntKind.u64.wrap a) (uwrapU _) (uwrapU _)
  rw [binI _ _ _ hb ha rfl, int_comm1 b a, ← binI _ _ _ ha hb rfl] at c2
  have d1 := bin_any 3 (1, IntKind.u64.wrap a) (1, IntKind.u64.wrap b) (uwrapU _) (uwrapU _)
  have d2 := bin_any 3 (1, IntKind.u64.wrap b) (1, IntKind.u64.wrap a) (uwrapU _) (uwrapU _)
  rw [binI _ _ _ hb ha rfl, int_comm3 b a, ← binI _ _ _ ha hb rfl] at d2
  generalize binF 1 (1, IntKind.u64.wrap a) (1, IntKind.u64.wrap b) = R1 at c1 c2
  obtain ⟨⟨t1, v1⟩, q1⟩ := R1
  generalize binF 3 (1, IntKind.u64.wrap a) (1, IntKind.u64.wrap b) = R3 at d1 d2
  obtain ⟨⟨t3, v3⟩, q3⟩ := R3
  dsimp only [vv] at c1 c2 d1 d2
  have k4 := bin_is 4 1 (IntKind.u64.wrap a) 1 (IntKind.u64.wrap b) 0 0 2 (uwrapU _) (uwrapU _) (by rw [binI _ _ _ ha hb rfl, int_4, if_pos h0])
  have k5 := bin_is 5 1 (IntKind.u64.wrap a) 1 (IntKind.u64.wrap b) 0 0 2 (uwrapU _) (uwrapU _) (by rw [binI _ _ _ ha hb rfl, int_5, if_pos h0])
  have k8 := bin_is 8 1 (IntKind.u64.wrap a) 1 (IntKind.u64.wrap b) 3 1 0 (uwrapU _) (uwrapU _) (by rw [binI _ _ _ ha hb rfl, int_8, if_pos hlt])
  have k11 := bin_is 11 1 (IntKind.u64.wrap a) 1 (IntKind.u64.wrap b) 3 0 0 (uwrapU _) (uwrapU _) (by rw [binI _ _ _ ha hb rfl, int_11, if_pos hlt])
  generalize IntKind.u64.wrap a = X at *
  generalize IntKind.u64.wrap b = Y at *
  subst h0
  have hl1 : decide (a < 0) = true := by simp; omega
  clear ha hb hlt
  go_enter Try.func4, Try.ntmps4
  go_wp2_with fail
  go_at_call 9
  refine (kx _).mono ?_
  rintro e w1 ⟨rfl, f1⟩
  go_wp2_with fail
  go_at_call 9
  refine (ky _).mono ?_
  rintro e w2 ⟨rfl, f2⟩
  have f0' := (f1.same f2).same ((Fr.alloc FN w2 (zb (ci 1) (.int .u64 X))).same (Fr.alloc FN _ (zb (ci 1) (.int .u64 Y))))
  have qX' : Hidden (((w2.alloc (zb (ci 1) (.int .u64 X))).alloc (zb (ci 1) (.int .u64 Y))).heap[w2.heap.size]? = some (zb (ci 1) (.int .u64 X))) := (alloc_old _ _ _ (by simp)).trans (alloc_new _ _)
  have qY' : Hidden (((w2.alloc (zb (ci 1) (.int .u64 X))).alloc (zb (ci 1) (.int .u64 Y))).heap[w2.heap.size + 1]? = some (zb (ci 1) (.int .u64 Y))) := alloc_at _ _ _ (by simp)
  obtain ⟨W0, hW0⟩ : ∃ W, W = (w2.alloc (zb (ci 1) (.int .u64 X))).alloc (zb (ci 1) (.int .u64 Y)) := ⟨_, rfl⟩
  rw [← hW0] at f0' qX' qY'
  have hW0H : Hidden (W0 = _) := hW0
  have f0 : Hidden (Fr FN w W0) := f0'
  clear hW0 f0' f1 f2 kx ky
  go_wp2_with fail
  rw [← (show W0 = _ from hW0H)]
  go_loopg [7] 2 (fun g iv wr => ∃ (i : Nat), iv = ci (1 + 2 * (i : Int)) ∧ i ≤ 2 ∧ g = 2 - i ∧ Fr FN W0 wr)
  case atStart => exact ⟨0, rfl, by omega, rfl, Fr.refl _ _⟩
  case round =>
    obtain ⟨i, rfl, hi, hgk, g0⟩ := hrel
    have qX_0 := g0.heap qX' (fun f => f)
    have qY_0 := g0.heap qY' (fun f => f)
    obtain ⟨cX_0, eX_0, _, _⟩ := box2 qX_0
    obtain ⟨cY_0, eY_0, _, _⟩ := box2 qY_0
    have hgkH : Hidden (gk = 2 - i) := hgk
    clear hgk
    rcases i with _ | _ | _ | i
    · rw [show (1 + 2 * (((0 : Nat)) : Int)) = 1 by rfl]
      go_wp2_with fail
      go_at_call 10
      refine (c1 _).mono ?_
      rintro e u1 ⟨rfl, f1⟩
      have h1 := f1.same (Fr.alloc FN u1 (zb (ci t1) (.int .u64 v1)))
      have qX_1 := h1.heap qX_0 (fun f => f)
      obtain ⟨cX_1, eX_1, _, _⟩ := box2 qX_1
      have qY_1 := h1.heap qY_0 (fun f => f)
      obtain ⟨cY_1, eY_1, _, _⟩ := box2 qY_1
      have qv_1 : Hidden ((u1.alloc (zb (ci t1) (.int .u64 v1))).heap[u1.heap.size]? = some (zb (ci t1) (.int .u64 v1))) := alloc_new _ _
      have g1 := g0.same h1
      go_wp2_with fail
      go_at_call 10
      refine (c2 _).mono ?_
      rintro e u2 ⟨rfl, f2⟩
      have h2 := f2.same (Fr.alloc FN u2 (zb (ci t1) (.int .u64 v1)))
      have qX_2 := h2.heap qX_1 (fun f => f)
      obtain ⟨cX_2, eX_2, _, _⟩ := box2 qX_2
      have qY_2 := h2.heap qY_1 (fun f => f)
      obtain ⟨cY_2, eY_2, _, _⟩ := box2 qY_2
      have qv_2 := h2.heap qv_1 (fun f => f)
      obtain ⟨cv_2, ev_2, _, _⟩ := box2 qv_2
      have qu_2 : Hidden ((u2.alloc (zb (ci t1) (.int .u64 v1))).heap[u2.heap.size]? = some (zb (ci t1) (.int .u64 v1))) := alloc_new _ _
      have g2 := g1.same h2
      go_wp2_with fail
      go_roundg 1
      case measure => have : gk = 2 - 0 := hgkH; omega
      case rel => exact ⟨1, by go_num, by omega, rfl, g2⟩
    · rw [show (1 + 2 * (((0 + 1 : Nat)) : Int)) = 3 by rfl]
      go_wp2_with fail
      go_at_call 10
      refine (d1 _).mono ?_
      rintro e u1 ⟨rfl, f1⟩
      have h1 := f1.same (Fr.alloc FN u1 (zb (ci t3) (.int .u64 v3)))
      have qX_1 := h1.heap qX_0 (fun f => f)
      obtain ⟨cX_1, eX_1, _, _⟩ := box2 qX_1
      have qY_1 := h1.heap qY_0 (fun f => f)
      obtain ⟨cY_1, eY_1, _, _⟩ := box2 qY_1
      have qv_1 : Hidden ((u1.alloc (zb (ci t3) (.int .u64 v3))).heap[u1.heap.size]? = some (zb (ci t3) (.int .u64 v3))) := alloc_new _ _
      have g1 := g0.same h1
      go_wp2_with fail
      go_at_call 10
      refine (d2 _).mono ?_
      rintro e u2 ⟨rfl, f2⟩
      have h2 := f2.same (Fr.alloc FN u2 (zb (ci t3) (.int .u64 v3)))
      have qX_2 := h2.heap qX_1 (fun f => f)
      obtain ⟨cX_2, eX_2, _, _⟩ := box2 qX_2
      have qY_2 := h2.heap qY_1 (fun f => f)
      obtain ⟨cY_2, eY_2, _, _⟩ := box2 qY_2
      have qv_2 := h2.heap qv_1 (fun f => f)
      obtain ⟨cv_2, ev_2, _, _⟩ := box2 qv_2
      have qu_2 : Hidden ((u2.alloc (zb (ci t3) (.int .u64 v3))).heap[u2.heap.size]? = some (zb (ci t3) (.int .u64 v3))) := alloc_new _ _
      have g2 := g1.same h2
      go_wp2_with fail
      go_roundg 0
      case measure => have : gk = 2 - 1 := hgkH; omega
      case rel => exact ⟨2, by go_num, by omega, rfl, g2⟩
    · rw [show (1 + 2 * (((0 + 1 + 1 : Nat)) : Int)) = 5 by rfl]
      go_wp2_with fail
      go_at_call 10
      refine (k4 _).mono ?_
      rintro e u1 ⟨rfl, f1⟩
      have h1 := f1.same (Fr.alloc FN u1 (zb (ci 0) (.int .u64 0)))
      have qX_1 := h1.heap qX_0 (fun f => f)
      obtain ⟨cX_1, eX_1, _, _⟩ := box2 qX_1
      have qY_1 := h1.heap qY_0 (fun f => f)
      obtain ⟨cY_1, eY_1, _, _⟩ := box2 qY_1
      have qq_1 : Hidden ((u1.alloc (zb (ci 0) (.int .u64 0))).heap[u1.heap.size]? = some (zb (ci 0) (.int .u64 0))) := alloc_new _ _
      have g1 := g0.same h1
      go_wp2_with fail
      go_at_call 10
      refine (k5 _).mono ?_
      rintro e u2 ⟨rfl, f2⟩
      have h2 := f2.same (Fr.alloc FN u2 (zb (ci 0) (.int .u64 0)))
      have qX_2 := h2.heap qX_1 (fun f => f)
      obtain ⟨cX_2, eX_2, _, _⟩ := box2 qX_2
      have qY_2 := h2.heap qY_1 (fun f => f)
      obtain ⟨cY_2, eY_2, _, _⟩ := box2 qY_2
      have qq_2 := h2.heap qq_1 (fun f => f)
      obtain ⟨cq_2, eq_2, _, _⟩ := box2 qq_2
      have qr_2 : Hidden ((u2.alloc (zb (ci 0) (.int .u64 0))).heap[u2.heap.size]? = some (zb (ci 0) (.int .u64 0))) := alloc_new _ _
      have g2 := g1.same h2
      go_wp2_with fail
      go_at_call 10
      refine (k8 _).mono ?_
      rintro e u3 ⟨rfl, f3⟩
      have h3 := f3.same (Fr.alloc FN u3 (zb (ci 3) (.int .u64 1)))
      have qX_3 := h3.heap qX_2 (fun f => f)
      obtain ⟨cX_3, eX_3, _, _⟩ := box2 qX_3
      have qY_3 := h3.heap qY_2 (fun f => f)
      obtain ⟨cY_3, eY_3, _, _⟩ := box2 qY_3
      have qq_3 := h3.heap qq_2 (fun f => f)
      obtain ⟨cq_3, eq_3, _, _⟩ := box2 qq_3
      have qr_3 := h3.heap qr_2 (fun f => f)
      obtain ⟨cr_3, er_3, _, _⟩ := box2 qr_3
      have ql_3 : Hidden ((u3.alloc (zb (ci 3) (.int .u64 1))).heap[u3.heap.size]? = some (zb (ci 3) (.int .u64 1))) := alloc_new _ _
      have g3 := g2.same h3
      go_wp2_with fail
      go_at_call 10
      refine (k11 _).mono ?_
      rintro e u4 ⟨rfl, f4⟩
      have h4 := f4.same (Fr.alloc FN u4 (zb (ci 3) (.int .u64 0)))
      have qX_4 := h4.heap qX_3 (fun f => f)
      obtain ⟨cX_4, eX_4, _, _⟩ := box2 qX_4
      have qY_4 := h4.heap qY_3 (fun f => f)
      obtain ⟨cY_4, eY_4, _, _⟩ := box2 qY_4
      have qq_4 := h4.heap qq_3 (fun f => f)
      obtain ⟨cq_4, eq_4, _, _⟩ := box2 qq_4
      have qr_4 := h4.heap qr_3 (fun f => f)
      obtain ⟨cr_4, er_4, _, _⟩ := box2 qr_4
      have ql_4 := h4.heap ql_3 (fun f => f)
      obtain ⟨cl_4, el_4, _, _⟩ := box2 ql_4
      have qm_4 : Hidden ((u4.alloc (zb (ci 3) (.int .u64 0))).heap[u4.heap.size]? = some (zb (ci 3) (.int .u64 0))) := alloc_new _ _
      have g4 := g3.same h4
      go_wp2_with fail
      go_at_call 8
      refine (alive_any _).mono ?_
      rintro e u5 ⟨rfl, h5⟩
      have qX_5 := h5.heap qX_4 (fun f => f)
      obtain ⟨cX_5, eX_5, _, _⟩ := box2 qX_5
      have qY_5 := h5.heap qY_4 (fun f => f)
      obtain ⟨cY_5, eY_5, _, _⟩ := box2 qY_5
      have qq_5 := h5.heap qq_4 (fun f => f)
      obtain ⟨cq_5, eq_5, _, _⟩ := box2 qq_5
      have qr_5 := h5.heap qr_4 (fun f => f)
      obtain ⟨cr_5, er_5, _, _⟩ := box2 qr_5
      have ql_5 := h5.heap ql_4 (fun f => f)
      obtain ⟨cl_5, el_5, _, _⟩ := box2 ql_5
      have qm_5 := h5.heap qm_4 (fun f => f)
      obtain ⟨cm_5, em_5, _, _⟩ := box2 qm_5
      have g5 := g4.same h5
      go_wp2_with fail
      go_ret
      exact ⟨rfl, (show Fr FN w W0 from f0).same g5⟩
    · omega
set_option maxRecDepth 20000 in
set_option maxHeartbeats 4000000 in
theorem laws_zero_ge (a b : Int) (ha : I64 a) (hb : I64 b) (h0 : b = 0) (hlt : ¬ a < b) (w : World) : Calls Try.prog 4 #[ci a, ci b] w fun e w' => e = .returned (.bool true) ∧ Fr FN w w' := by
  have kx := lw_any a
  have ky := lw_any b
  dsimp only [vv] at kx ky
  have c1 := bin_any 1 (1, IntKind.u64.wrap a) (1, IntKind.u64.wrap b) (uwrapU _) (uwrapU _)
  have c2 := bin_any 1 (1, IntKind.u64.wrap b) (1, IntKind.u64.wrap a) (uwrapU _) (uwrapU _)
  rw [binI _ _ _ hb ha rfl, int_comm1 b a, ← binI _ _ _ ha hb rfl] at c2
  have d1 := bin_any 3 (1, IntKind.u64.wrap a) (1, IntKind.u64.wrap b) (uwrapU _) (uwrapU _)
  have d2 := bin_any 3 (1, IntKind.u64.wrap b) (1, IntKind.u64.wrap a) (uwrapU _) (uwrapU _)
  rw [binI _ _ _ hb ha rfl, int_comm3 b a, ← binI _ _ _ ha hb rfl] at d2
  generalize binF 1 (1, IntKind.u64.wrap a) (1, IntKind.u64.wrap b) = R1 at c1 c2
  obtain ⟨⟨t1, v1⟩, q1⟩ := R1
  generalize binF 3 (1, IntKind.u64.wrap a) (1, IntKind.u64.wrap b) = R3 at d1 d2
  obtain ⟨⟨t3, v3⟩, q3⟩ := R3
  dsimp only [vv] at c1 c2 d1 d2
  have k4 := bin_is 4 1 (IntKind.u64.wrap a) 1 (IntKind.u64.wrap b) 0 0 2 (uwrapU _) (uwrapU _) (by rw [binI _ _ _ ha hb rfl, int_4, if_pos h0])
  have k5 := bin_is 5 1 (IntKind.u64.wrap a) 1 (IntKind.u64.wrap b) 0 0 2 (uwrapU _) (uwrapU _) (by rw [binI _ _ _ ha hb rfl, int_5, if_pos h0])
  have k8 := bin_is 8 1 (IntKind.u64.wrap a) 1 (IntKind.u64.wrap b) 3 0 0 (uwrapU _) (uwrapU _) (by rw [binI _ _ _ ha hb rfl, int_8, if_neg hlt])
  have k11 := bin_is 11 1 (IntKind.u64.wrap a) 1 (IntKind.u64.wrap b) 3 1 0 (uwrapU _) (uwrapU _) (by rw [binI _ _ _ ha hb rfl, int_11, if_neg hlt])
  generalize IntKind.u64.wrap a = X at *
  generalize IntKind.u64.wrap b = Y at *
  subst h0
  have hl1 : decide (a < 0) = false := by simp; omega
  clear ha hb hlt
  go_enter Try.func4, Try.ntmps4
  go_wp2_with fail
  go_at_call 9
  refine (kx _).mono ?_
  rintro e w1 ⟨rfl, f1⟩
  go_wp2_with fail
  go_at_call 9
  refine (ky _).mono ?_
  rintro e w2 ⟨rfl, f2⟩
  have f0' := (f1.same f2).same ((Fr.alloc FN w2 (zb (ci 1) (.int .u64 X))).same (Fr.alloc FN _ (zb (ci 1) (.int .u64 Y))))
  have qX' : Hidden (((w2.alloc (zb (ci 1) (.int .u64 X))).alloc (zb (ci 1) (.int .u64 Y))).heap[w2.heap.size]? = some (zb (ci 1) (.int .u64 X))) := (alloc_old _ _ _ (by simp)).trans (alloc_new _ _)
  have qY' : Hidden (((w2.alloc (zb (ci 1) (.int .u64 X))).alloc (zb (ci 1) (.int .u64 Y))).heap[w2.heap.size + 1]? = some (zb (ci 1) (.int .u64 Y))) := alloc_at _ _ _ (by simp)
  obtain ⟨W0, hW0⟩ : ∃ W, W = (w2.alloc (zb (ci 1) (.int .u64 X))).alloc (zb (ci 1) (.int .u64 Y)) := ⟨_, rfl⟩
  rw [← hW0] at f0' qX' qY'
  have hW0H : Hidden (W0 = _) := hW0
  have f0 : Hidden (Fr FN w W0) := f0'
  clear hW0 f0' f1 f2 kx ky
  go_wp2_with fail
  rw [← (show W0 = _ from hW0H)]
  go_loopg [7] 2 (fun g iv wr => ∃ (i : Nat), iv = ci (1 + 2 * (i : Int)) ∧ i ≤ 2 ∧ g = 2 - i ∧ Fr FN W0 wr)
  case atStart => exact ⟨0, rfl, by omega, rfl, Fr.refl _ _⟩
  case round =>
    obtain ⟨i, rfl, hi, hgk, g0⟩ := hrel
    have qX_0 := g0.heap qX' (fun f => f)
    have qY_0 := g0.heap qY' (fun f => f)
    obtain ⟨cX_0, eX_0, _, _⟩ := box2 qX_0
    obtain ⟨cY_0, eY_0, _, _⟩ := box2 qY_0
    have hgkH : Hidden (gk = 2 - i) := hgk
    clear hgk
    rcases i with _ | _ | _ | i
    · rw [show (1 + 2 * (((0 : Nat)) : Int)) = 1 by rfl]
      go_wp2_with fail
      go_at_call 10
      refine (c1 _).mono ?_
      rintro e u1 ⟨rfl, f1⟩
      have h1 := f1.same (Fr.alloc FN u1 (zb (ci t1) (.int .u64 v1)))
      have qX_1 := h1.heap qX_0 (fun f => f)
      obtain ⟨cX_1, eX_1, _, _⟩ := box2 qX_1
      have qY_1 := h1.heap qY_0 (fun f => f)
      obtain ⟨cY_1, eY_1, _, _⟩ := box2 qY_1
      have qv_1 : Hidden ((u1.alloc (zb (ci t1) (.int .u64 v1))).heap[u1.heap.size]? = some (zb (ci t1) (.int .u64 v1))) := alloc_new _ _
      have g1 := g0.same h1
      go_wp2_with fail
      go_at_call 10
      refine (c2 _).mono ?_
      rintro e u2 ⟨rfl, f2⟩
      have h2 := f2.same (Fr.alloc FN u2 (zb (ci t1) (.int .u64 v1)))
      have qX_2 := h2.heap qX_1 (fun f => f)
      obtain ⟨cX_2, eX_2, _, _⟩ := box2 qX_2
      have qY_2 := h2.heap qY_1 (fun f => f)
      obtain ⟨cY_2, eY_2, _, _⟩ := box2 qY_2
      have qv_2 := h2.heap qv_1 (fun f => f)
      obtain ⟨cv_2, ev_2, _, _⟩ := box2 qv_2
      have qu_2 : Hidden ((u2.alloc (zb (ci t1) (.int .u64 v1))).heap[u2.heap.size]? = some (zb (ci t1) (.int .u64 v1))) := alloc_new _ _
      have g2 := g1.same h2
      go_wp2_with fail
      go_roundg 1
      case measure => have : gk = 2 - 0 := hgkH; omega
      case rel => exact ⟨1, by go_num, by omega, rfl, g2⟩
    · rw [show (1 + 2 * (((0 + 1 : Nat)) : Int)) = 3 by rfl]
      go_wp2_with fail
      go_at_call 10
      refine (d1 _).mono ?_
      rintro e u1 ⟨rfl, f1⟩
      have h1 := f1.same (Fr.alloc FN u1 (zb (ci t3) (.int .u64 v3)))
      have qX_1 := h1.heap qX_0 (fun f => f)
      obtain ⟨cX_1, eX_1, _, _⟩ := box2 qX_1
      have qY_1 := h1.heap qY_0 (fun f => f)
      obtain ⟨cY_1, eY_1, _, _⟩ := box2 qY_1
      have qv_1 : Hidden ((u1.alloc (zb (ci t3) (.int .u64 v3))).heap[u1.heap.size]? = some (zb (ci t3) (.int .u64 v3))) := alloc_new _ _
      have g1 := g0.same h1
      go_wp2_with fail
      go_at_call 10
      refine (d2 _).mono ?_
      rintro e u2 ⟨rfl, f2⟩
      have h2 := f2.same (Fr.alloc FN u2 (zb (ci t3) (.int .u64 v3)))
      have qX_2 := h2.heap qX_1 (fun f => f)
      obtain ⟨cX_2, eX_2, _, _⟩ := box2 qX_2
      have qY_2 := h2.heap qY_1 (fun f => f)
      obtain ⟨cY_2, eY_2, _, _⟩ := box2 qY_2
      have qv_2 := h2.heap qv_1 (fun f => f)
      obtain ⟨cv_2, ev_2, _, _⟩ := box2 qv_2
      have qu_2 : Hidden ((u2.alloc (zb (ci t3) (.int .u64 v3))).heap[u2.heap.size]? = some (zb (ci t3) (.int .u64 v3))) := alloc_new _ _
      have g2 := g1.same h2
      go_wp2_with fail
      go_roundg 0
      case measure => have : gk = 2 - 1 := hgkH; omega
      case rel => exact ⟨2, by go_num, by omega, rfl, g2⟩
    · rw [show (1 + 2 * (((0 + 1 + 1 : Nat)) : Int)) = 5 by rfl]
      go_wp2_with fail
      go_at_call 10
      refine (k4 _).mono ?_
      rintro e u1 ⟨rfl, f1⟩
      have h1 := f1.same (Fr.alloc FN u1 (zb (ci 0) (.int .u64 0)))
      have qX_1 := h1.heap qX_0 (fun f => f)
      obtain ⟨cX_1, eX_1, _, _⟩ := box2 qX_1
      have qY_1 := h1.heap qY_0 (fun f => f)
      obtain ⟨cY_1, eY_1, _, _⟩ := box2 qY_1
      have qq_1 : Hidden ((u1.alloc (zb (ci 0) (.int .u64 0))).heap[u1.heap.size]? = some (zb (ci 0) (.int .u64 0))) := alloc_new _ _
      have g1 := g0.same h1
      go_wp2_with fail
      go_at_call 10
      refine (k5 _).mono ?_
      rintro e u2 ⟨rfl, f2⟩
      have h2 := f2.same (Fr.alloc FN u2 (zb (ci 0) (.int .u64 0)))
      have qX_2 := h2.heap qX_1 (fun f => f)
      obtain ⟨cX_2, eX_2, _, _⟩ := box2 qX_2
      have qY_2 := h2.heap qY_1 (fun f => f)
      obtain ⟨cY_2, eY_2, _, _⟩ := box2 qY_2
      have qq_2 := h2.heap qq_1 (fun f => f)
      obtain ⟨cq_2, eq_2, _, _⟩ := box2 qq_2
      have qr_2 : Hidden ((u2.alloc (zb (ci 0) (.int .u64 0))).heap[u2.heap.size]? = some (zb (ci 0) (.int .u64 0))) := alloc_new _ _
      have g2 := g1.same h2
      go_wp2_with fail
      go_at_call 10
      refine (k8 _).mono ?_
      rintro e u3 ⟨rfl, f3⟩
      have h3 := f3.same (Fr.alloc FN u3 (zb (ci 3) (.int .u64 0)))
      have qX_3 := h3.heap qX_2 (fun f => f)
      obtain ⟨cX_3, eX_3, _, _⟩ := box2 qX_3
      have qY_3 := h3.heap qY_2 (fun f => f)
      obtain ⟨cY_3, eY_3, _, _⟩ := box2 qY_3
      have qq_3 := h3.heap qq_2 (fun f => f)
      obtain ⟨cq_3, eq_3, _, _⟩ := box2 qq_3
      have qr_3 := h3.heap qr_2 (fun f => f)
      obtain ⟨cr_3, er_3, _, _⟩ := box2 qr_3
      have ql_3 : Hidden ((u3.alloc (zb (ci 3) (.int .u64 0))).heap[u3.heap.size]? = some (zb (ci 3) (.int .u64 0))) := alloc_new _ _
      have g3 := g2.same h3
      go_wp2_with fail
      go_at_call 10
      refine (k11 _).mono ?_
      rintro e u4 ⟨rfl, f4⟩
      have h4 := f4.same (Fr.alloc FN u4 (zb (ci 3) (.int .u64 1)))
      have qX_4 := h4.heap qX_3 (fun f => f)
      obtain ⟨cX_4, eX_4, _, _⟩ := box2 qX_4
      have qY_4 := h4.heap qY_3 (fun f => f)
      obtain ⟨cY_4, eY_4, _, _⟩ := box2 qY_4
      have qq_4 := h4.heap qq_3 (fun f => f)
      obtain ⟨cq_4, eq_4, _, _⟩ := box2 qq_4
      have qr_4 := h4.heap qr_3 (fun f => f)
      obtain ⟨cr_4, er_4, _, _⟩ := box2 qr_4
      have ql_4 := h4.heap ql_3 (fun f => f)
      obtain ⟨cl_4, el_4, _, _⟩ := box2 ql_4
      have qm_4 : Hidden ((u4.alloc (zb (ci 3) (.int .u64 1))).heap[u4.heap.size]? = some (zb (ci 3) (.int .u64 1))) := alloc_new _ _
      have g4 := g3.same h4
      go_wp2_with fail
      go_at_call 8
      refine (alive_any _).mono ?_
      rintro e u5 ⟨rfl, h5⟩
      have qX_5 := h5.heap qX_4 (fun f => f)
      obtain ⟨cX_5, eX_5, _, _⟩ := box2 qX_5
      have qY_5 := h5.heap qY_4 (fun f => f)
      obtain ⟨cY_5, eY_5, _, _⟩ := box2 qY_5
      have qq_5 := h5.heap qq_4 (fun f => f)
      obtain ⟨cq_5, eq_5, _, _⟩ := box2 qq_5
      have qr_5 := h5.heap qr_4 (fun f => f)
      obtain ⟨cr_5, er_5, _, _⟩ := box2 qr_5
      have ql_5 := h5.heap ql_4 (fun f => f)
      obtain ⟨cl_5, el_5, _, _⟩ := box2 ql_5
      have qm_5 := h5.heap qm_4 (fun f => f)
      obtain ⟨cm_5, em_5, _, _⟩ := box2 qm_5
      have g5 := g4.same h5
      go_wp2_with fail
      go_ret
      exact ⟨rfl, (show Fr FN w W0 from f0).same g5⟩
    · omega
set_option maxRecDepth 20000 in
set_option maxHeartbeats 4000000 in
theorem laws_over_lt (a b : Int) (ha : I64 a) (hb : I64 b) (h0 : a = -9223372036854775808 ∧ b = -1) (hlt : a < b) (w : World) : Calls Try.prog 4 #[ci a, ci b] w fun e w' => e = .returned (.bool true) ∧ Fr FN w w' := by
  have kx := lw_any a
  have ky := lw_any b
  dsimp only [vv] at kx ky
  have c1 := bin_any 1 (1, IntKind.u64.wrap a) (1, IntKind.u64.wrap b) (uwrapU _) (uwrapU _)
  have c2 := bin_any 1 (1, IntKind.u64.wrap b) (1, IntKind.u64.wrap a) (uwrapU _) (uwrapU _)
  rw [binI _ _ _ hb ha rfl, int_comm1 b a, ← binI _ _ _ ha hb rfl] at c2
  have d1 := bin_any 3 (1, IntKind.u64.wrap a) (1, IntKind.u64.wrap b) (uwrapU _) (uwrapU _)
  have d2 := bin_any 3 (1, IntKind.u64.wrap b) (1, IntKind.u64.wrap a) (uwrapU _) (uwrapU _)
  rw [binI _ _ _ hb ha rfl, int_comm3 b a, ← binI _ _ _ ha hb rfl] at d2
  generalize binF 1 (1, IntKind.u64.wrap a) (1, IntKind.u64.wrap b) = R1 at c1 c2
  obtain ⟨⟨t1, v1⟩, q1⟩ := R1
  generalize binF 3 (1, IntKind.u64.wrap a) (1, IntKind.u64.wrap b) = R3 at d1 d2
  obtain ⟨⟨t3, v3⟩, q3⟩ := R3
  dsimp only [vv] at c1 c2 d1 d2
  have h00 : ¬ b = 0 := by omega
  have k4 := bin_is 4 1 (IntKind.u64.wrap a) 1 (IntKind.u64.wrap b) 0 0 1 (uwrapU _) (uwrapU _) (by rw [binI _ _ _ ha hb rfl, int_4, if_neg h00, if_pos h0])
  have k5 := bin_is 5 1 (IntKind.u64.wrap a) 1 (IntKind.u64.wrap b) 1 0 0 (uwrapU _) (uwrapU _) (by rw [binI _ _ _ ha hb rfl, int_5, if_neg h00, h0.2, Z.tmod_m1]; rfl)
  have k8 := bin_is 8 1 (IntKind.u64.wrap a) 1 (IntKind.u64.wrap b) 3 1 0 (uwrapU _) (uwrapU _) (by rw [binI _ _ _ ha hb rfl, int_8, if_pos hlt])
  have k11 := bin_is 11 1 (IntKind.u64.wrap a) 1 (IntKind.u64.wrap b) 3 0 0 (uwrapU _) (uwrapU _) (by rw [binI _ _ _ ha hb rfl, int_11, if_pos hlt])
  generalize IntKind.u64.wrap a = X at *
  generalize IntKind.u64.wrap b = Y at *
  obtain ⟨rfl, rfl⟩ := h0
  clear ha hb hlt
  go_enter Try.func4, Try.ntmps4
  go_wp2_with fail
  go_at_call 9
  refine (kx _).mono ?_
  rintro e w1 ⟨rfl, f1⟩
  go_wp2_with fail
  go_at_call 9
  refine (ky _).mono ?_
  rintro e w2 ⟨rfl, f2⟩
  have f0' := (f1.same f2).same ((Fr.alloc FN w2 (zb (ci 1) (.int .u64 X))).same (Fr.alloc FN _ (zb (ci 1) (.int .u64 Y))))
  have qX' : Hidden (((w2.alloc (zb (ci 1) (.int .u64 X))).alloc (zb (ci 1) (.int .u64 Y))).heap[w2.heap.size]? = some (zb (ci 1) (.int .u64 X))) := (alloc_old _ _ _ (by simp)).trans (alloc_new _ _)
  have qY' : Hidden (((w2.alloc (zb (ci 1) (.int .u64 X))).alloc (zb (ci 1) (.int .u64 Y))).heap[w2.heap.size + 1]? = some (zb (ci 1) (.int .u64 Y))) := alloc_at _ _ _ (by simp)
  obtain ⟨W0, hW0⟩ : ∃ W, W = (w2.alloc (zb (ci 1) (.int .u64 X))).alloc (zb (ci 1) (.int .u64 Y)) := ⟨_, rfl⟩
  rw [← hW0] at f0' qX' qY'
  have hW0H : Hidden (W0 = _) := hW0
  have f0 : Hidden (Fr FN w W0) := f0'
  clear hW0 f0' f1 f2 kx ky
  go_wp2_with fail
  rw [← (show W0 = _ from hW0H)]
  go_loopg [7] 2 (fun g iv wr => ∃ (i : Nat), iv = ci (1 + 2 * (i : Int)) ∧ i ≤ 2 ∧ g = 2 - i ∧ Fr FN W0 wr)
  case atStart => exact ⟨0, rfl, by omega, rfl, Fr.refl _ _⟩
  case round =>
    obtain ⟨i, rfl, hi, hgk, g0⟩ := hrel
    have qX_0 := g0.heap qX' (fun f => f)
    have qY_0 := g0.heap qY' (fun f => f)
    obtain ⟨cX_0, eX_0, _, _⟩ := box2 qX_0
    obtain ⟨cY_0, eY_0, _, _⟩ := box2 qY_0
    have hgkH : Hidden (gk = 2 - i) := hgk
    clear hgk
    rcases i with _ | _ | _ | i
    · rw [show (1 + 2 * (((0 : Nat)) : Int)) = 1 by rfl]
      go_wp2_with fail
      go_at_call 10
      refine (c1 _).mono ?_
      rintro e u1 ⟨rfl, f1⟩
      have h1 := f1.same (Fr.alloc FN u1 (zb (ci t1) (.int .u64 v1)))
      have qX_1 := h1.heap qX_0 (fun f => f)
      obtain ⟨cX_1, eX_1, _, _⟩ := box2 qX_1
      have qY_1 := h1.heap qY_0 (fun f => f)
      obtain ⟨cY_1, eY_1, _, _⟩ := box2 qY_1
      have qv_1 : Hidden ((u1.alloc (zb (ci t1) (.int .u64 v1))).heap[u1.heap.size]? = some (zb (ci t1) (.int .u64 v1))) := alloc_new _ _
      have g1 := g0.same h1
      go_wp2_with fail
      go_at_call 10
      refine (c2 _).mono ?_
      rintro e u2 ⟨rfl, f2⟩
      have h2 := f2.same (Fr.alloc FN u2 (zb (ci t1) (.int .u64 v1)))
      have qX_2 := h2.heap qX_1 (fun f => f)
      obtain ⟨cX_2, eX_2, _, _⟩ := box2 qX_2
      have qY_2 := h2.heap qY_1 (fun f => f)
      obtain ⟨cY_2, eY_2, _, _⟩ := box2 qY_2
      have qv_2 := h2.heap qv_1 (fun f => f)
      obtain ⟨cv_2, ev_2, _, _⟩ := box2 qv_2
      have qu_2 : Hidden ((u2.alloc (zb (ci t1) (.int .u64 v1))).heap[u2.heap.size]? = some (zb (ci t1) (.int .u64 v1))) := alloc_new _ _
      have g2 := g1.same h2
      go_wp2_with fail
      go_roundg 1
      case measure => have : gk = 2 - 0 := hgkH; omega
      case rel => exact ⟨1, by go_num, by omega, rfl, g2⟩
    · rw [show (1 + 2 * (((0 + 1 : Nat)) : Int)) = 3 by rfl]
      go_wp2_with fail
      go_at_call 10
      refine (d1 _).mono ?_
      rintro e u1 ⟨rfl, f1⟩
      have h1 := f1.same (Fr.alloc FN u1 (zb (ci t3) (.int .u64 v3)))
      have qX_1 := h1.heap qX_0 (fun f => f)
      obtain ⟨cX_1, eX_1, _, _⟩ := box2 qX_1
      have qY_1 := h1.heap qY_0 (fun f => f)
      obtain ⟨cY_1, eY_1, _, _⟩ := box2 qY_1
      have qv_1 : Hidden ((u1.alloc (zb (ci t3) (.int .u64 v3))).heap[u1.heap.size]? = some (zb (ci t3) (.int .u64 v3))) := alloc_new _ _
      have g1 := g0.same h1
      go_wp2_with fail
      go_at_call 10
      refine (d2 _).mono ?_
      rintro e u2 ⟨rfl, f2⟩
      have h2 := f2.same (Fr.alloc FN u2 (zb (ci t3) (.int .u64 v3)))
      have qX_2 := h2.heap qX_1 (fun f => f)
      obtain ⟨cX_2, eX_2, _, _⟩ := box2 qX_2
      have qY_2 := h2.heap qY_1 (fun f => f)
      obtain ⟨cY_2, eY_2, _, _⟩ := box2 qY_2
      have qv_2 := h2.heap qv_1 (fun f => f)
      obtain ⟨cv_2, ev_2, _, _⟩ := box2 qv_2
      have qu_2 : Hidden ((u2.alloc (zb (ci t3) (.int .u64 v3))).heap[u2.heap.size]? = some (zb (ci t3) (.int .u64 v3))) := alloc_new _ _
      have g2 := g1.same h2
      go_wp2_with fail
      go_roundg 0
      case measure => have : gk = 2 - 1 := hgkH; omega
      case rel => exact ⟨2, by go_num, by omega, rfl, g2⟩
    · rw [show (1 + 2 * (((0 + 1 + 1 : Nat)) : Int)) = 5 by rfl]
      go_wp2_with fail
      go_at_call 10
      refine (k4 _).mono ?_
      rintro e u1 ⟨rfl, f1⟩
      have h1 := f1.same (Fr.alloc FN u1 (zb (ci 0) (.int .u64 0)))
      have qX_1 := h1.heap qX_0 (fun f => f)
      obtain ⟨cX_1, eX_1, _, _⟩ := box2 qX_1
      have qY_1 := h1.heap qY_0 (fun f => f)
      obtain ⟨cY_1, eY_1, _, _⟩ := box2 qY_1
      have qq_1 : Hidden ((u1.alloc (zb (ci 0) (.int .u64 0))).heap[u1.heap.size]? = some (zb (ci 0) (.int .u64 0))) := alloc_new _ _
      have g1 := g0.same h1
      go_wp2_with fail
      go_at_call 10
      refine (k5 _).mono ?_
      rintro e u2 ⟨rfl, f2⟩
      have h2 := f2.same (Fr.alloc FN u2 (zb (ci 1) (.int .u64 0)))
      have qX_2 := h2.heap qX_1 (fun f => f)
      obtain ⟨cX_2, eX_2, _, _⟩ := box2 qX_2
      have qY_2 := h2.heap qY_1 (fun f => f)
      obtain ⟨cY_2, eY_2, _, _⟩ := box2 qY_2
      have qq_2 := h2.heap qq_1 (fun f => f)
      obtain ⟨cq_2, eq_2, _, _⟩ := box2 qq_2
      have qr_2 : Hidden ((u2.alloc (zb (ci 1) (.int .u64 0))).heap[u2.heap.size]? = some (zb (ci 1) (.int .u64 0))) := alloc_new _ _
      have g2 := g1.same h2
      go_wp2_with fail
      go_at_call 10
      refine (k8 _).mono ?_
      rintro e u3 ⟨rfl, f3⟩
      have h3 := f3.same (Fr.alloc FN u3 (zb (ci 3) (.int .u64 1)))
      have qX_3 := h3.heap qX_2 (fun f => f)
      obtain ⟨cX_3, eX_3, _, _⟩ := box2 qX_3
      have qY_3 := h3.heap qY_2 (fun f => f)
      obtain ⟨cY_3, eY_3, _, _⟩ := box2 qY_3
      have qq_3 := h3.heap qq_2 (fun f => f)
      obtain ⟨cq_3, eq_3, _, _⟩ := box2 qq_3
      have qr_3 := h3.heap qr_2 (fun f => f)
      obtain ⟨cr_3, er_3, _, _⟩ := box2 qr_3
      have ql_3 : Hidden ((u3.alloc (zb (ci 3) (.int .u64 1))).heap[u3.heap.size]? = some (zb (ci 3) (.int .u64 1))) := alloc_new _ _
      have g3 := g2.same h3
      go_wp2_with fail
      go_at_call 10
      refine (k11 _).mono ?_
      rintro e u4 ⟨rfl, f4⟩
      have h4 := f4.same (Fr.alloc FN u4 (zb (ci 3) (.int .u64 0)))
      have qX_4 := h4.heap qX_3 (fun f => f)
      obtain ⟨cX_4, eX_4, _, _⟩ := box2 qX_4
      have qY_4 := h4.heap qY_3 (fun f => f)
      obtain ⟨cY_4, eY_4, _, _⟩ := box2 qY_4
      have qq_4 := h4.heap qq_3 (fun f => f)
      obtain ⟨cq_4, eq_4, _, _⟩ := box2 qq_4
      have qr_4 := h4.heap qr_3 (fun f => f)
      obtain ⟨cr_4, er_4, _, _⟩ := box2 qr_4
      have ql_4 := h4.heap ql_3 (fun f => f)
      obtain ⟨cl_4, el_4, _, _⟩ := box2 ql_4
      have qm_4 : Hidden ((u4.alloc (zb (ci 3) (.int .u64 0))).heap[u4.heap.size]? = some (zb (ci 3) (.int .u64 0))) := alloc_new _ _
      have g4 := g3.same h4
      go_wp2_with fail
      go_at_call 8
      refine (alive_any _).mono ?_
      rintro e u5 ⟨rfl, h5⟩
      have qX_5 := h5.heap qX_4 (fun f => f)
      obtain ⟨cX_5, eX_5, _, _⟩ := box2 qX_5
      have qY_5 := h5.heap qY_4 (fun f => f)
      obtain ⟨cY_5, eY_5, _, _⟩ := box2 qY_5
      have qq_5 := h5.heap qq_4 (fun f => f)
      obtain ⟨cq_5, eq_5, _, _⟩ := box2 qq_5
      have qr_5 := h5.heap qr_4 (fun f => f)
      obtain ⟨cr_5, er_5, _, _⟩ := box2 qr_5
      have ql_5 := h5.heap ql_4 (fun f => f)
      obtain ⟨cl_5, el_5, _, _⟩ := box2 ql_5
      have qm_5 := h5.heap qm_4 (fun f => f)
      obtain ⟨cm_5, em_5, _, _⟩ := box2 qm_5
      have g5 := g4.same h5
      go_wp2_with fail
      go_ret
      exact ⟨rfl, (show Fr FN w W0 from f0).same g5⟩
    · omega
set_option maxRecDepth 20000 in
set_option maxHeartbeats 4000000 in
theorem laws_over_ge (a b : Int) (ha : I64 a) (hb : I64 b) (h0 : a = -9223372036854775808 ∧ b = -1) (hlt : ¬ a < b) (w : World) : Calls Try.prog 4 #[ci a, ci b] w fun e w' => e = .returned (.bool true) ∧ Fr FN w w' := by
  have kx := lw_any a
  have ky := lw_any b
  dsimp only [vv] at kx ky
  have c1 := bin_any 1 (1, IntKind.u64.wrap a) (1, IntKind.u64.wrap b) (uwrapU _) (uwrapU _)
  have c2 := bin_any 1 (1, IntKind.u64.wrap b) (1, IntKind.u64.wrap a) (uwrapU _) (uwrapU _)
  rw [binI _ _ _ hb ha rfl, int_comm1 b a, ← binI _ _ _ ha hb rfl] at c2
  have d1 := bin_any 3 (1, IntKind.u64.wrap a) (1, IntKind.u64.wrap b) (uwrapU _) (uwrapU _)
  have d2 := bin_any 3 (1, IntKind.u64.wrap b) (1, IntKind.u64.wrap a) (uwrapU _) (uwrapU _)
  rw [binI _ _ _ hb ha rfl, int_comm3 b a, ← binI _ _ _ ha hb rfl] at d2
  generalize binF 1 (1, IntKind.u64.wrap a) (1, IntKind.u64.wrap b) = R1 at c1 c2
  obtain ⟨⟨t1, v1⟩, q1⟩ := R1
  generalize binF 3 (1, IntKind.u64.wrap a) (1, IntKind.u64.wrap b) = R3 at d1 d2
  obtain ⟨⟨t3, v3⟩, q3⟩ := R3
  dsimp only [vv] at c1 c2 d1 d2
  have h00 : ¬ b = 0 := by omega
  have k4 := bin_is 4 1 (IntKind.u64.wrap a) 1 (IntKind.u64.wrap b) 0 0 1 (uwrapU _) (uwrapU _) (by rw [binI _ _ _ ha hb rfl, int_4, if_neg h00, if_pos h0])
  have k5 := bin_is 5 1 (IntKind.u64.wrap a) 1 (IntKind.u64.wrap b) 1 0 0 (uwrapU _) (uwrapU _) (by rw [binI _ _ _ ha hb rfl, int_5, if_neg h00, h0.2, Z.tmod_m1]; rfl)
  have k8 := bin_is 8 1 (IntKind.u64.wrap a) 1 (IntKind.u64.wrap b) 3 0 0 (uwrapU _) (uwrapU _) (by rw [binI _ _ _ ha hb rfl, int_8, if_neg hlt])
  have k11 := bin_is 11 1 (IntKind.u64.wrap a) 1 (IntKind.u64.wrap b) 3 1 0 (uwrapU _) (uwrapU _) (by rw [binI _ _ _ ha hb rfl, int_11, if_neg hlt])
  generalize IntKind.u64.wrap a = X at *
  generalize IntKind.u64.wrap b = Y at *
  obtain ⟨rfl, rfl⟩ := h0
  exact absurd (show (-9223372036854775808 : Int) < -1 by decide) hlt
set_option maxRecDepth 20000 in
set_option maxHeartbeats 4000000 in
theorem laws_fine_lt (a b : Int) (ha : I64 a) (hb : I64 b) (h0 : ¬ b = 0) (h1 : ¬ (a = -9223372036854775808 ∧ b = -1)) (hlt : a < b) (w : World) : Calls Try.prog 4 #[ci a, ci b] w fun e w' => e = .returned (.bool true) ∧ Fr FN w w' := by
  have kx := lw_any a
  have ky := lw_any b
  dsimp only [vv] at kx ky
  have c1 := bin_any 1 (1, IntKind.u64.wrap a) (1, IntKind.u64.wrap b) (uwrapU _) (uwrapU _)
  have c2 := bin_any 1 (1, IntKind.u64.wrap b) (1, IntKind.u64.wrap a) (uwrapU _) (uwrapU _)
  rw [binI _ _ _ hb ha rfl, int_comm1 b a, ← binI _ _ _ ha hb rfl] at c2
  have d1 := bin_any 3 (1, IntKind.u64.wrap a) (1, IntKind.u64.wrap b) (uwrapU _) (uwrapU _)
  have d2 := bin_any 3 (1, IntKind.u64.wrap b) (1, IntKind.u64.wrap a) (uwrapU _) (uwrapU _)
  rw [binI _ _ _ hb ha rfl, int_comm3 b a, ← binI _ _ _ ha hb rfl] at d2
  generalize binF 1 (1, IntKind.u64.wrap a) (1, IntKind.u64.wrap b) = R1 at c1 c2
  obtain ⟨⟨t1, v1⟩, q1⟩ := R1
  generalize binF 3 (1, IntKind.u64.wrap a) (1, IntKind.u64.wrap b) = R3 at d1 d2
  obtain ⟨⟨t3, v3⟩, q3⟩ := R3
  dsimp only [vv] at c1 c2 d1 d2
  have k4 := bin_is 4 1 (IntKind.u64.wrap a) 1 (IntKind.u64.wrap b) 1 (IntKind.u64.wrap (a.tdiv b)) 0 (uwrapU _) (uwrapU _) (by rw [binI _ _ _ ha hb rfl, int_4, if_neg h0, if_neg h1])
  have k5 := bin_is 5 1 (IntKind.u64.wrap a) 1 (IntKind.u64.wrap b) 1 (IntKind.u64.wrap (a.tmod b)) 0 (uwrapU _) (uwrapU _) (by rw [binI _ _ _ ha hb rfl, int_5, if_neg h0])
  have hq : I64 (a.tdiv b) := Z.tdiv_I a b ha h0 h1
  have hr : I64 (a.tmod b) := Z.tmod_I a b ha hb
  have hp := back_fit a b ha
  have k3 := bin_is 3 1 (IntKind.u64.wrap (a.tdiv b)) 1 (IntKind.u64.wrap b) 1 (IntKind.u64.wrap (a.tdiv b * b)) 0 (uwrapU _) (uwrapU _) (by rw [binI _ _ _ hq hb rfl, int_3 _ _ hp])
  have k1 := bin_is 1 1 (IntKind.u64.wrap (a.tdiv b * b)) 1 (IntKind.u64.wrap (a.tmod b)) 1 (IntKind.u64.wrap a) 0 (uwrapU _) (uwrapU _) (by rw [binI _ _ _ hp hr rfl, int_1 _ _ (by rw [back_sum]; exact ha), back_sum])
  have k8 := bin_is 8 1 (IntKind.u64.wrap a) 1 (IntKind.u64.wrap b) 3 1 0 (uwrapU _) (uwrapU _) (by rw [binI _ _ _ ha hb rfl, int_8, if_pos hlt])
  have k11 := bin_is 11 1 (IntKind.u64.wrap a) 1 (IntKind.u64.wrap b) 3 0 0 (uwrapU _) (uwrapU _) (by rw [binI _ _ _ ha hb rfl, int_11, if_pos hlt])
  generalize IntKind.u64.wrap a = X at *
  generalize IntKind.u64.wrap b = Y at *
  generalize IntKind.u64.wrap (a.tdiv b * b) = PP at *
  generalize IntKind.u64.wrap (a.tdiv b) = QQ at *
  generalize IntKind.u64.wrap (a.tmod b) = RR at *
  clear hq hr hp
  have hb0 : (b == 0) = false := by simp [h0]
  have hl1 : decide (a < b) = true := by simp; omega
  clear ha hb hlt h0 h1
  go_enter Try.func4, Try.ntmps4
  go_wp2_with fail
  go_at_call 9
  refine (kx _).mono ?_
  rintro e w1 ⟨rfl, f1⟩
  go_wp2_with fail
  go_at_call 9
  refine (ky _).mono ?_
  rintro e w2 ⟨rfl, f2⟩
  have f0' := (f1.same f2).same ((Fr.alloc FN w2 (zb (ci 1) (.int .u64 X))).same (Fr.alloc FN _ (zb (ci 1) (.int .u64 Y))))
  have qX' : Hidden (((w2.alloc (zb (ci 1) (.int .u64 X))).alloc (zb (ci 1) (.int .u64 Y))).heap[w2.heap.size]? = some (zb (ci 1) (.int .u64 X))) := (alloc_old _ _ _ (by simp)).trans (alloc_new _ _)
  have qY' : Hidden (((w2.alloc (zb (ci 1) (.int .u64 X))).alloc (zb (ci 1) (.int .u64 Y))).heap[w2.heap.size + 1]? = some (zb (ci 1) (.int .u64 Y))) := alloc_at _ _ _ (by simp)
  obtain ⟨W0, hW0⟩ : ∃ W, W = (w2.alloc (zb (ci 1) (.int .u64 X))).alloc (zb (ci 1) (.int .u64 Y)) := ⟨_, rfl⟩
  rw [← hW0] at f0' qX' qY'
  have hW0H : Hidden (W0 = _) := hW0
  have f0 : Hidden (Fr FN w W0) := f0'
  clear hW0 f0' f1 f2 kx ky
  go_wp2_with fail
  rw [← (show W0 = _ from hW0H)]
  go_loopg [7] 2 (fun g iv wr => ∃ (i : Nat), iv = ci (1 + 2 * (i : Int)) ∧ i ≤ 2 ∧ g = 2 - i ∧ Fr FN W0 wr)
  case atStart => exact ⟨0, rfl, by omega, rfl, Fr.refl _ _⟩
  case round =>
    obtain ⟨i, rfl, hi, hgk, g0⟩ := hrel
    have qX_0 := g0.heap qX' (fun f => f)
    have qY_0 := g0.heap qY' (fun f => f)
    obtain ⟨cX_0, eX_0, _, _⟩ := box2 qX_0
    obtain ⟨cY_0, eY_0, _, _⟩ := box2 qY_0
    have hgkH : Hidden (gk = 2 - i) := hgk
    clear hgk
    rcases i with _ | _ | _ | i
    · rw [show (1 + 2 * (((0 : Nat)) : Int)) = 1 by rfl]
      go_wp2_with fail
      go_at_call 10
      refine (c1 _).mono ?_
      rintro e u1 ⟨rfl, f1⟩
      have h1 := f1.same (Fr.alloc FN u1 (zb (ci t1) (.int .u64 v1)))
      have qX_1 := h1.heap qX_0 (fun f => f)
      obtain ⟨cX_1, eX_1, _, _⟩ := box2 qX_1
      have qY_1 := h1.heap qY_0 (fun f => f)
      obtain ⟨cY_1, eY_1, _, _⟩ := box2 qY_1
      have qv_1 : Hidden ((u1.alloc (zb (ci t1) (.int .u64 v1))).heap[u1.heap.size]? = some (zb (ci t1) (.int .u64 v1))) := alloc_new _ _
      have g1 := g0.same h1
      go_wp2_with fail
      go_at_call 10
      refine (c2 _).mono ?_
      rintro e u2 ⟨rfl, f2⟩
      have h2 := f2.same (Fr.alloc FN u2 (zb (ci t1) (.int .u64 v1)))
      have qX_2 := h2.heap qX_1 (fun f => f)
      obtain ⟨cX_2, eX_2, _, _⟩ := box2 qX_2
      have qY_2 := h2.heap qY_1 (fun f => f)
      obtain ⟨cY_2, eY_2, _, _⟩ := box2 qY_2
      have qv_2 := h2.heap qv_1 (fun f => f)
      obtain ⟨cv_2, ev_2, _, _⟩ := box2 qv_2
      have qu_2 : Hidden ((u2.alloc (zb (ci t1) (.int .u64 v1))).heap[u2.heap.size]? = some (zb (ci t1) (.int .u64 v1))) := alloc_new _ _
      have g2 := g1.same h2
      go_wp2_with fail
      go_roundg 1
      case measure => have : gk = 2 - 0 := hgkH; omega
      case rel => exact ⟨1, by go_num, by omega, rfl, g2⟩
    · rw [show (1 + 2 * (((0 + 1 : Nat)) : Int)) = 3 by rfl]
      go_wp2_with fail
      go_at_call 10
      refine (d1 _).mono ?_
      rintro e u1 ⟨rfl, f1⟩
      have h1 := f1.same (Fr.alloc FN u1 (zb (ci t3) (.int .u64 v3)))
      have qX_1 := h1.heap qX_0 (fun f => f)
      obtain ⟨cX_1, eX_1, _, _⟩ := box2 qX_1
      have qY_1 := h1.heap qY_0 (fun f => f)
      obtain ⟨cY_1, eY_1, _, _⟩ := box2 qY_1
      have qv_1 : Hidden ((u1.alloc (zb (ci t3) (.int .u64 v3))).heap[u1.heap.size]? = some (zb (ci t3) (.int .u64 v3))) := alloc_new _ _
      have g1 := g0.same h1
      go_wp2_with fail
      go_at_call 10
      refine (d2 _).mono ?_
      rintro e u2 ⟨rfl, f2⟩
      have h2 := f2.same (Fr.alloc FN u2 (zb (ci t3) (.int .u64 v3)))
      have qX_2 := h2.heap qX_1 (fun f => f)
      obtain ⟨cX_2, eX_2, _, _⟩ := box2 qX_2
      have qY_2 := h2.heap qY_1 (fun f => f)
      obtain ⟨cY_2, eY_2, _, _⟩ := box2 qY_2
      have qv_2 := h2.heap qv_1 (fun f => f)
      obtain ⟨cv_2, ev_2, _, _⟩ := box2 qv_2
      have qu_2 : Hidden ((u2.alloc (zb (ci t3) (.int .u64 v3))).heap[u2.heap.size]? = some (zb (ci t3) (.int .u64 v3))) := alloc_new _ _
      have g2 := g1.same h2
      go_wp2_with fail
      go_roundg 0
      case measure => have : gk = 2 - 1 := hgkH; omega
      case rel => exact ⟨2, by go_num, by omega, rfl, g2⟩
    · rw [show (1 + 2 * (((0 + 1 + 1 : Nat)) : Int)) = 5 by rfl]
      go_wp2_with fail
      go_at_call 10
      refine (k4 _).mono ?_
      rintro e u1 ⟨rfl, f1⟩
      have h1 := f1.same (Fr.alloc FN u1 (zb (ci 1) (.int .u64 QQ)))
      have qX_1 := h1.heap qX_0 (fun f => f)
      obtain ⟨cX_1, eX_1, _, _⟩ := box2 qX_1
      have qY_1 := h1.heap qY_0 (fun f => f)
      obtain ⟨cY_1, eY_1, _, _⟩ := box2 qY_1
      have qq_1 : Hidden ((u1.alloc (zb (ci 1) (.int .u64 QQ))).heap[u1.heap.size]? = some (zb (ci 1) (.int .u64 QQ))) := alloc_new _ _
      have g1 := g0.same h1
      go_wp2_with fail
      go_at_call 10
      refine (k5 _).mono ?_
      rintro e u2 ⟨rfl, f2⟩
      have h2 := f2.same (Fr.alloc FN u2 (zb (ci 1) (.int .u64 RR)))
      have qX_2 := h2.heap qX_1 (fun f => f)
      obtain ⟨cX_2, eX_2, _, _⟩ := box2 qX_2
      have qY_2 := h2.heap qY_1 (fun f => f)
      obtain ⟨cY_2, eY_2, _, _⟩ := box2 qY_2
      have qq_2 := h2.heap qq_1 (fun f => f)
      obtain ⟨cq_2, eq_2, _, _⟩ := box2 qq_2
      have qr_2 : Hidden ((u2.alloc (zb (ci 1) (.int .u64 RR))).heap[u2.heap.size]? = some (zb (ci 1) (.int .u64 RR))) := alloc_new _ _
      have g2 := g1.same h2
      go_wp2_with fail
      go_at_call 10
      refine (k8 _).mono ?_
      rintro e u3 ⟨rfl, f3⟩
      have h3 := f3.same (Fr.alloc FN u3 (zb (ci 3) (.int .u64 1)))
      have qX_3 := h3.heap qX_2 (fun f => f)
      obtain ⟨cX_3, eX_3, _, _⟩ := box2 qX_3
      have qY_3 := h3.heap qY_2 (fun f => f)
      obtain ⟨cY_3, eY_3, _, _⟩ := box2 qY_3
      have qq_3 := h3.heap qq_2 (fun f => f)
      obtain ⟨cq_3, eq_3, _, _⟩ := box2 qq_3
      have qr_3 := h3.heap qr_2 (fun f => f)
      obtain ⟨cr_3, er_3, _, _⟩ := box2 qr_3
      have ql_3 : Hidden ((u3.alloc (zb (ci 3) (.int .u64 1))).heap[u3.heap.size]? = some (zb (ci 3) (.int .u64 1))) := alloc_new _ _
      have g3 := g2.same h3
      go_wp2_with fail
      go_at_call 10
      refine (k11 _).mono ?_
      rintro e u4 ⟨rfl, f4⟩
      have h4 := f4.same (Fr.alloc FN u4 (zb (ci 3) (.int .u64 0)))
      have qX_4 := h4.heap qX_3 (fun f => f)
      obtain ⟨cX_4, eX_4, _, _⟩ := box2 qX_4
      have qY_4 := h4.heap qY_3 (fun f => f)
      obtain ⟨cY_4, eY_4, _, _⟩ := box2 qY_4
      have qq_4 := h4.heap qq_3 (fun f => f)
      obtain ⟨cq_4, eq_4, _, _⟩ := box2 qq_4
      have qr_4 := h4.heap qr_3 (fun f => f)
      obtain ⟨cr_4, er_4, _, _⟩ := box2 qr_4
      have ql_4 := h4.heap ql_3 (fun f => f)
      obtain ⟨cl_4, el_4, _, _⟩ := box2 ql_4
      have qm_4 : Hidden ((u4.alloc (zb (ci 3) (.int .u64 0))).heap[u4.heap.size]? = some (zb (ci 3) (.int .u64 0))) := alloc_new _ _
      have g4 := g3.same h4
      go_wp2_with fail
      go_at_call 8
      refine (alive_any _).mono ?_
      rintro e u5 ⟨rfl, h5⟩
      have qX_5 := h5.heap qX_4 (fun f => f)
      obtain ⟨cX_5, eX_5, _, _⟩ := box2 qX_5
      have qY_5 := h5.heap qY_4 (fun f => f)
      obtain ⟨cY_5, eY_5, _, _⟩ := box2 qY_5
      have qq_5 := h5.heap qq_4 (fun f => f)
      obtain ⟨cq_5, eq_5, _, _⟩ := box2 qq_5
      have qr_5 := h5.heap qr_4 (fun f => f)
      obtain ⟨cr_5, er_5, _, _⟩ := box2 qr_5
      have ql_5 := h5.heap ql_4 (fun f => f)
      obtain ⟨cl_5, el_5, _, _⟩ := box2 ql_5
      have qm_5 := h5.heap qm_4 (fun f => f)
      obtain ⟨cm_5, em_5, _, _⟩ := box2 qm_5
      have g5 := g4.same h5
      go_wp2_with fail
      go_at_call 10
      refine (k3 _).mono ?_
      rintro e u6 ⟨rfl, f6⟩
      have h6 := f6.same (Fr.alloc FN u6 (zb (ci 1) (.int .u64 PP)))
      have qX_6 := h6.heap qX_5 (fun f => f)
      obtain ⟨cX_6, eX_6, _, _⟩ := box2 qX_6
      have qY_6 := h6.heap qY_5 (fun f => f)
      obtain ⟨cY_6, eY_6, _, _⟩ := box2 qY_6
      have qq_6 := h6.heap qq_5 (fun f => f)
      obtain ⟨cq_6, eq_6, _, _⟩ := box2 qq_6
      have qr_6 := h6.heap qr_5 (fun f => f)
      obtain ⟨cr_6, er_6, _, _⟩ := box2 qr_6
      have ql_6 := h6.heap ql_5 (fun f => f)
      obtain ⟨cl_6, el_6, _, _⟩ := box2 ql_6
      have qm_6 := h6.heap qm_5 (fun f => f)
      obtain ⟨cm_6, em_6, _, _⟩ := box2 qm_6
      have qp_6 : Hidden ((u6.alloc (zb (ci 1) (.int .u64 PP))).heap[u6.heap.size]? = some (zb (ci 1) (.int .u64 PP))) := alloc_new _ _
      have g6 := g5.same h6
      go_wp2_with fail
      go_at_call 10
      refine (k1 _).mono ?_
      rintro e u7 ⟨rfl, f7⟩
      have h7 := f7.same (Fr.alloc FN u7 (zb (ci 1) (.int .u64 X)))
      have qX_7 := h7.heap qX_6 (fun f => f)
      obtain ⟨cX_7, eX_7, _, _⟩ := box2 qX_7
      have qY_7 := h7.heap qY_6 (fun f => f)
      obtain ⟨cY_7, eY_7, _, _⟩ := box2 qY_7
      have qq_7 := h7.heap qq_6 (fun f => f)
      obtain ⟨cq_7, eq_7, _, _⟩ := box2 qq_7
      have qr_7 := h7.heap qr_6 (fun f => f)
      obtain ⟨cr_7, er_7, _, _⟩ := box2 qr_7
      have ql_7 := h7.heap ql_6 (fun f => f)
      obtain ⟨cl_7, el_7, _, _⟩ := box2 ql_7
      have qm_7 := h7.heap qm_6 (fun f => f)
      obtain ⟨cm_7, em_7, _, _⟩ := box2 qm_7
      have qp_7 := h7.heap qp_6 (fun f => f)
      obtain ⟨cp_7, ep_7, _, _⟩ := box2 qp_7
      have qz_7 : Hidden ((u7.alloc (zb (ci 1) (.int .u64 X))).heap[u7.heap.size]? = some (zb (ci 1) (.int .u64 X))) := alloc_new _ _
      have g7 := g6.same h7
      go_wp2_with fail
      go_ret
      exact ⟨rfl, (show Fr FN w W0 from f0).same g7⟩
    · omega
set_option maxRecDepth 20000 in
set_option maxHeartbeats 4000000 in
theorem laws_fine_ge (a b : Int) (ha : I64 a) (hb : I64 b) (h0 : ¬ b = 0) (h1 : ¬ (a = -9223372036854775808 ∧ b = -1)) (hlt : ¬ a < b) (w : World) : Calls Try.prog 4 #[ci a, ci b] w fun e w' => e = .returned (.bool true) ∧ Fr FN w w' := by
  have kx := lw_any a
  have ky := lw_any b
  dsimp only [vv] at kx ky
  have c1 := bin_any 1 (1, IntKind.u64.wrap a) (1, IntKind.u64.wrap b) (uwrapU _) (uwrapU _)
  have c2 := bin_any 1 (1, IntKind.u64.wrap b) (1, IntKind.u64.wrap a) (uwrapU _) (uwrapU _)
  rw [binI _ _ _ hb ha rfl, int_comm1 b a, ← binI _ _ _ ha hb rfl] at c2
  have d1 := bin_any 3 (1, IntKind.u64.wrap a) (1, IntKind.u64.wrap b) (uwrapU _) (uwrapU _)
  have d2 := bin_any 3 (1, IntKind.u64.wrap b) (1, IntKind.u64.wrap a) (uwrapU _) (uwrapU _)
  rw [binI _ _ _ hb ha rfl, int_comm3 b a, ← binI _ _ _ ha hb rfl] at d2
  generalize binF 1 (1, IntKind.u64.wrap a) (1, IntKind.u64.wrap b) = R1 at c1 c2
  obtain ⟨⟨t1, v1⟩, q1⟩ := R1
  generalize binF 3 (1, IntKind.u64.wrap a) (1, IntKind.u64.wrap b) = R3 at d1 d2
  obtain ⟨⟨t3, v3⟩, q3⟩ := R3
  dsimp only [vv] at c1 c2 d1 d2
  have k4 := bin_is 4 1 (IntKind.u64.wrap a) 1 (IntKind.u64.wrap b) 1 (IntKind.u64.wrap (a.tdiv b)) 0 (uwrapU _) (uwrapU _) (by rw [binI _ _ _ ha hb rfl, int_4, if_neg h0, if_neg h1])
  have k5 := bin_is 5 1 (IntKind.u64.wrap a) 1 (IntKind.u64.wrap b) 1 (IntKind.u64.wrap (a.tmod b)) 0 (uwrapU _) (uwrapU _) (by rw [binI _ _ _ ha hb rfl, int_5, if_neg h0])
  have hq : I64 (a.tdiv b) := Z.tdiv_I a b ha h0 h1
  have hr : I64 (a.tmod b) := Z.tmod_I a b ha hb
  have hp := back_fit a b ha
  have k3 := bin_is 3 1 (IntKind.u64.wrap (a.tdiv b)) 1 (IntKind.u64.wrap b) 1 (IntKind.u64.wrap (a.tdiv b * b)) 0 (uwrapU _) (uwrapU _) (by rw [binI _ _ _ hq hb rfl, int_3 _ _ hp])
  have k1 := bin_is 1 1 (IntKind.u64.wrap (a.tdiv b * b)) 1 (IntKind.u64.wrap (a.tmod b)) 1 (IntKind.u64.wrap a) 0 (uwrapU _) (uwrapU _) (by rw [binI _ _ _ hp hr rfl, int_1 _ _ (by rw [back_sum]; exact ha), back_sum])
  have k8 := bin_is 8 1 (IntKind.u64.wrap a) 1 (IntKind.u64.wrap b) 3 0 0 (uwrapU _) (uwrapU _) (by rw [binI _ _ _ ha hb rfl, int_8, if_neg hlt])
  have k11 := bin_is 11 1 (IntKind.u64.wrap a) 1 (IntKind.u64.wrap b) 3 1 0 (uwrapU _) (uwrapU _) (by rw [binI _ _ _ ha hb rfl, int_11, if_neg hlt])
  generalize IntKind.u64.wrap a = X at *
  generalize IntKind.u64.wrap b = Y at *
  generalize IntKind.u64.wrap (a.tdiv b * b) = PP at *
  generalize IntKind.u64.wrap (a.tdiv b) = QQ at *
  generalize IntKind.u64.wrap (a.tmod b) = RR at *
  clear hq hr hp
  have hb0 : (b == 0) = false := by simp [h0]
  have hl1 : decide (a < b) = false := by simp; omega
  clear ha hb hlt h0 h1
  go_enter Try.func4, Try.ntmps4
  go_wp2_with fail
  go_at_call 9
  refine (kx _).mono ?_
  rintro e w1 ⟨rfl, f1⟩
  go_wp2_with fail
  go_at_call 9
  refine (ky _).mono ?_
  rintro e w2 ⟨rfl, f2⟩
  have f0' := (f1.same f2).same ((Fr.alloc FN w2 (zb (ci 1) (.int .u64 X))).same (Fr.alloc FN _ (zb (ci 1) (.int .u64 Y))))
  have qX' : Hidden (((w2.alloc (zb (ci 1) (.int .u64 X))).alloc (zb (ci 1) (.int .u64 Y))).heap[w2.heap.size]? = some (zb (ci 1) (.int .u64 X))) := (alloc_old _ _ _ (by simp)).trans (alloc_new _ _)
  have qY' : Hidden (((w2.alloc (zb (ci 1) (.int .u64 X))).alloc (zb (ci 1) (.int .u64 Y))).heap[w2.heap.size + 1]? = some (zb (ci 1) (.int .u64 Y))) := alloc_at _ _ _ (by simp)
  obtain ⟨W0, hW0⟩ : ∃ W, W = (w2.alloc (zb (ci 1) (.int .u64 X))).alloc (zb (ci 1) (.int .u64 Y)) := ⟨_, rfl⟩
  rw [← hW0] at f0' qX' qY'
  have hW0H : Hidden (W0 = _) := hW0
  have f0 : Hidden (Fr FN w W0) := f0'
  clear hW0 f0' f1 f2 kx ky
  go_wp2_with fail
  rw [← (show W0 = _ from hW0H)]
  go_loopg [7] 2 (fun g iv wr => ∃ (i : Nat), iv = ci (1 + 2 * (i : Int)) ∧ i ≤ 2 ∧ g = 2 - i ∧ Fr FN W0 wr)
  case atStart => exact ⟨0, rfl, by omega, rfl, Fr.refl _ _⟩
  case round =>
    obtain ⟨i, rfl, hi, hgk, g0⟩ := hrel
    have qX_0 := g0.heap qX' (fun f => f)
    have qY_0 := g0.heap qY' (fun f => f)
    obtain ⟨cX_0, eX_0, _, _⟩ := box2 qX_0
    obtain ⟨cY_0, eY_0, _, _⟩ := box2 qY_0
    have hgkH : Hidden (gk = 2 - i) := hgk
    clear hgk
    rcases i with _ | _ | _ | i
    · rw [show (1 + 2 * (((0 : Nat)) : Int)) = 1 by rfl]
      go_wp2_with fail
      go_at_call 10
      refine (c1 _).mono ?_
      rintro e u1 ⟨rfl, f1⟩
      have h1 := f1.same (Fr.alloc FN u1 (zb (ci t1) (.int .u64 v1)))
      have qX_1 := h1.heap qX_0 (fun f => f)
      obtain ⟨cX_1, eX_1, _, _⟩ := box2 qX_1
      have qY_1 := h1.heap qY_0 (fun f => f)
      obtain ⟨cY_1, eY_1, _, _⟩ := box2 qY_1
      have qv_1 : Hidden ((u1.alloc (zb (ci t1) (.int .u64 v1))).heap[u1.heap.size]? = some (zb (ci t1) (.int .u64 v1))) := alloc_new _ _
      have g1 := g0.same h1
      go_wp2_with fail
      go_at_call 10
      refine (c2 _).mono ?_
      rintro e u2 ⟨rfl, f2⟩
      have h2 := f2.same (Fr.alloc FN u2 (zb (ci t1) (.int .u64 v1)))
      have qX_2 := h2.heap qX_1 (fun f => f)
      obtain ⟨cX_2, eX_2, _, _⟩ := box2 qX_2
      have qY_2 := h2.heap qY_1 (fun f => f)
      obtain ⟨cY_2, eY_2, _, _⟩ := box2 qY_2
      have qv_2 := h2.heap qv_1 (fun f => f)
      obtain ⟨cv_2, ev_2, _, _⟩ := box2 qv_2
      have qu_2 : Hidden ((u2.alloc (zb (ci t1) (.int .u64 v1))).heap[u2.heap.size]? = some (zb (ci t1) (.int .u64 v1))) := alloc_new _ _
      have g2 := g1.same h2
      go_wp2_with fail
      go_roundg 1
      case measure => have : gk = 2 - 0 := hgkH; omega
      case rel => exact ⟨1, by go_num, by omega, rfl, g2⟩
    · rw [show (1 + 2 * (((0 + 1 : Nat)) : Int)) = 3 by rfl]
      go_wp2_with fail
      go_at_call 10
      refine (d1 _).mono ?_
      rintro e u1 ⟨rfl, f1⟩
      have h1 := f1.same (Fr.alloc FN u1 (zb (ci t3) (.int .u64 v3)))
      have qX_1 := h1.heap qX_0 (fun f => f)
      obtain ⟨cX_1, eX_1, _, _⟩ := box2 qX_1
      have qY_1 := h1.heap qY_0 (fun f => f)
      obtain ⟨cY_1, eY_1, _, _⟩ := box2 qY_1
      have qv_1 : Hidden ((u1.alloc (zb (ci t3) (.int .u64 v3))).heap[u1.heap.size]? = some (zb (ci t3) (.int .u64 v3))) := alloc_new _ _
      have g1 := g0.same h1
      go_wp2_with fail
      go_at_call 10
      refine (d2 _).mono ?_
      rintro e u2 ⟨rfl, f2⟩
      have h2 := f2.same (Fr.alloc FN u2 (zb (ci t3) (.int .u64 v3)))
      have qX_2 := h2.heap qX_1 (fun f => f)
      obtain ⟨cX_2, eX_2, _, _⟩ := box2 qX_2
      have qY_2 := h2.heap qY_1 (fun f => f)
      obtain ⟨cY_2, eY_2, _, _⟩ := box2 qY_2
      have qv_2 := h2.heap qv_1 (fun f => f)
      obtain ⟨cv_2, ev_2, _, _⟩ := box2 qv_2
      have qu_2 : Hidden ((u2.alloc (zb (ci t3) (.int .u64 v3))).heap[u2.heap.size]? = some (zb (ci t3) (.int .u64 v3))) := alloc_new _ _
      have g2 := g1.same h2
      go_wp2_with fail
      go_roundg 0
      case measure => have : gk = 2 - 1 := hgkH; omega
      case rel => exact ⟨2, by go_num, by omega, rfl, g2⟩
    · rw [show (1 + 2 * (((0 + 1 + 1 : Nat)) : Int)) = 5 by rfl]
      go_wp2_with fail
      go_at_call 10
      refine (k4 _).mono ?_
      rintro e u1 ⟨rfl, f1⟩
      have h1 := f1.same (Fr.alloc FN u1 (zb (ci 1) (.int .u64 QQ)))
      have qX_1 := h1.heap qX_0 (fun f => f)
      obtain ⟨cX_1, eX_1, _, _⟩ := box2 qX_1
      have qY_1 := h1.heap qY_0 (fun f => f)
      obtain ⟨cY_1, eY_1, _, _⟩ := box2 qY_1
      have qq_1 : Hidden ((u1.alloc (zb (ci 1) (.int .u64 QQ))).heap[u1.heap.size]? = some (zb (ci 1) (.int .u64 QQ))) := alloc_new _ _
      have g1 := g0.same h1
      go_wp2_with fail
      go_at_call 10
      refine (k5 _).mono ?_
      rintro e u2 ⟨rfl, f2⟩
      have h2 := f2.same (Fr.alloc FN u2 (zb (ci 1) (.int .u64 RR)))
      have qX_2 := h2.heap qX_1 (fun f => f)
      obtain ⟨cX_2, eX_2, _, _⟩ := box2 qX_2
      have qY_2 := h2.heap qY_1 (fun f => f)
      obtain ⟨cY_2, eY_2, _, _⟩ := box2 qY_2
      have qq_2 := h2.heap qq_1 (fun f => f)
      obtain ⟨cq_2, eq_2, _, _⟩ := box2 qq_2
      have qr_2 : Hidden ((u2.alloc (zb (ci 1) (.int .u64 RR))).heap[u2.heap.size]? = some (zb (ci 1) (.int .u64 RR))) := alloc_new _ _
      have g2 := g1.same h2
      go_wp2_with fail
      go_at_call 10
      refine (k8 _).mono ?_
      rintro e u3 ⟨rfl, f3⟩
      have h3 := f3.same (Fr.alloc FN u3 (zb (ci 3) (.int .u64 0)))
      have qX_3 := h3.heap qX_2 (fun f => f)
      obtain ⟨cX_3, eX_3, _, _⟩ := box2 qX_3
      have qY_3 := h3.heap qY_2 (fun f => f)
      obtain ⟨cY_3, eY_3, _, _⟩ := box2 qY_3
      have qq_3 := h3.heap qq_2 (fun f => f)
      obtain ⟨cq_3, eq_3, _, _⟩ := box2 qq_3
      have qr_3 := h3.heap qr_2 (fun f => f)
      obtain ⟨cr_3, er_3, _, _⟩ := box2 qr_3
      have ql_3 : Hidden ((u3.alloc (zb (ci 3) (.int .u64 0))).heap[u3.heap.size]? = some (zb (ci 3) (.int .u64 0))) := alloc_new _ _
      have g3 := g2.same h3
      go_wp2_with fail
      go_at_call 10
      refine (k11 _).mono ?_
      rintro e u4 ⟨rfl, f4⟩
      have h4 := f4.same (Fr.alloc FN u4 (zb (ci 3) (.int .u64 1)))
      have qX_4 := h4.heap qX_3 (fun f => f)
      obtain ⟨cX_4, eX_4, _, _⟩ := box2 qX_4
      have qY_4 := h4.heap qY_3 (fun f => f)
      obtain ⟨cY_4, eY_4, _, _⟩ := box2 qY_4
      have qq_4 := h4.heap qq_3 (fun f => f)
      obtain ⟨cq_4, eq_4, _, _⟩ := box2 qq_4
      have qr_4 := h4.heap qr_3 (fun f => f)
      obtain ⟨cr_4, er_4, _, _⟩ := box2 qr_4
      have ql_4 := h4.heap ql_3 (fun f => f)
      obtain ⟨cl_4, el_4, _, _⟩ := box2 ql_4
      have qm_4 : Hidden ((u4.alloc (zb (ci 3) (.int .u64 1))).heap[u4.heap.size]? = some (zb (ci 3) (.int .u64 1))) := alloc_new _ _
      have g4 := g3.same h4
      go_wp2_with fail
      go_at_call 8
      refine (alive_any _).mono ?_
      rintro e u5 ⟨rfl, h5⟩
      have qX_5 := h5.heap qX_4 (fun f => f)
      obtain ⟨cX_5, eX_5, _, _⟩ := box2 qX_5
      have qY_5 := h5.heap qY_4 (fun f => f)
      obtain ⟨cY_5, eY_5, _, _⟩ := box2 qY_5
      have qq_5 := h5.heap qq_4 (fun f => f)
      obtain ⟨cq_5, eq_5, _, _⟩ := box2 qq_5
      have qr_5 := h5.heap qr_4 (fun f => f)
      obtain ⟨cr_5, er_5, _, _⟩ := box2 qr_5
      have ql_5 := h5.heap ql_4 (fun f => f)
      obtain ⟨cl_5, el_5, _, _⟩ := box2 ql_5
      have qm_5 := h5.heap qm_4 (fun f => f)
      obtain ⟨cm_5, em_5, _, _⟩ := box2 qm_5
      have g5 := g4.same h5
      go_wp2_with fail
      go_at_call 10
      refine (k3 _).mono ?_
      rintro e u6 ⟨rfl, f6⟩
      have h6 := f6.same (Fr.alloc FN u6 (zb (ci 1) (.int .u64 PP)))
      have qX_6 := h6.heap qX_5 (fun f => f)
      obtain ⟨cX_6, eX_6, _, _⟩ := box2 qX_6
      have qY_6 := h6.heap qY_5 (fun f => f)
      obtain ⟨cY_6, eY_6, _, _⟩ := box2 qY_6
      have qq_6 := h6.heap qq_5 (fun f => f)
      obtain ⟨cq_6, eq_6, _, _⟩ := box2 qq_6
      have qr_6 := h6.heap qr_5 (fun f => f)
      obtain ⟨cr_6, er_6, _, _⟩ := box2 qr_6
      have ql_6 := h6.heap ql_5 (fun f => f)
      obtain ⟨cl_6, el_6, _, _⟩ := box2 ql_6
      have qm_6 := h6.heap qm_5 (fun f => f)
      obtain ⟨cm_6, em_6, _, _⟩ := box2 qm_6
      have qp_6 : Hidden ((u6.alloc (zb (ci 1) (.int .u64 PP))).heap[u6.heap.size]? = some (zb (ci 1) (.int .u64 PP))) := alloc_new _ _
      have g6 := g5.same h6
      go_wp2_with fail
      go_at_call 10
      refine (k1 _).mono ?_
      rintro e u7 ⟨rfl, f7⟩
      have h7 := f7.same (Fr.alloc FN u7 (zb (ci 1) (.int .u64 X)))
      have qX_7 := h7.heap qX_6 (fun f => f)
      obtain ⟨cX_7, eX_7, _, _⟩ := box2 qX_7
      have qY_7 := h7.heap qY_6 (fun f => f)
      obtain ⟨cY_7, eY_7, _, _⟩ := box2 qY_7
      have qq_7 := h7.heap qq_6 (fun f => f)
      obtain ⟨cq_7, eq_7, _, _⟩ := box2 qq_7
      have qr_7 := h7.heap qr_6 (fun f => f)
      obtain ⟨cr_7, er_7, _, _⟩ := box2 qr_7
      have ql_7 := h7.heap ql_6 (fun f => f)
      obtain ⟨cl_7, el_7, _, _⟩ := box2 ql_7
      have qm_7 := h7.heap qm_6 (fun f => f)
      obtain ⟨cm_7, em_7, _, _⟩ := box2 qm_7
      have qp_7 := h7.heap qp_6 (fun f => f)
      obtain ⟨cp_7, ep_7, _, _⟩ := box2 qp_7
      have qz_7 : Hidden ((u7.alloc (zb (ci 1) (.int .u64 X))).heap[u7.heap.size]? = some (zb (ci 1) (.int .u64 X))) := alloc_new _ _
      have g7 := g6.same h7
      go_wp2_with fail
      go_ret
      exact ⟨rfl, (show Fr FN w W0 from f0).same g7⟩
    · omega
theorem laws_any (a b : Int) (ha : I64 a) (hb : I64 b) (w : World) : Calls Try.prog 4 #[ci a, ci b] w fun e w' => e = .returned (.bool true) ∧ Fr FN w w' := by
  by_cases hlt : a < b
  · by_cases h0 : b = 0
    · exact laws_zero_lt a b ha hb h0 hlt w
    by_cases h1 : a = -9223372036854775808 ∧ b = -1
    · exact laws_over_lt a b ha hb h1 hlt w
    exact laws_fine_lt a b ha hb h0 h1 hlt w
  · by_cases h0 : b = 0
    · exact laws_zero_ge a b ha hb h0 hlt w
    by_cases h1 : a = -9223372036854775808 ∧ b = -1
    · exact laws_over_ge a b ha hb h1 hlt w
    exact laws_fine_ge a b ha hb h0 h1 hlt w
theorem wf_I {a : Int} (h : (Lit.int .i64 a).wf = true) : I64 a := by
  simp only [Lit.wf, Bool.and_eq_true, decide_eq_true_eq] at h
  have h1 := h.1
  have h2 := h.2
  simp [IntKind.min, IntKind.signed, IntKind.bits] at h1
  simp [IntKind.max, IntKind.signed, IntKind.bits] at h2
  exact ⟨by omega, by omega⟩
end Go.Proofs.Ytmkfbppjbojdmaa.Fo
namespace Go.Proofs.Ytmkfbppjbojdmaa.foldLaws
theorem walk (a b : Int) (W : World) (h0 : (Lit.int .i64 a).wf = true) (h1 : (Lit.int .i64 b).wf = true) : Calls Try.prog 4 #[.int .i64 a, .int .i64 b] W fun e w' => e = .returned (.bool true) ∧ Fr (fun _ => False) W w' :=
  Fo.laws_any a b (Fo.wf_I h0) (Fo.wf_I h1) W
end Go.Proofs.Ytmkfbppjbojdmaa.foldLaws
