/- The document's Bin and Un. -/
import Derived.Test.YtmkfbppjbojdmaaGreatFoR
import Derived.Test.YtmkfbppjbojdmaaGreatFoU
namespace Go.Proofs.YtmkfbppjbojdmaaGreat.Fo
open Go.RowKit
set_option linter.unusedSimpArgs false
set_option linter.unusedVariables false

theorem wrap_inj {a b : Int} (ha : U64 a) (hb : U64 b) : (a == b) = decide (wrap64 a = wrap64 b) := by
  obtain ⟨a0, a1⟩ := (show Ty.U64 a from ha)
  obtain ⟨b0, b1⟩ := (show Ty.U64 b from hb)
  rw [Bool.eq_iff_iff]
  simp only [beq_iff_eq, decide_eq_true_eq]
  unfold wrap64
  omega
theorem eqS_comm (a b : Int) : F.Fl.eqS a b = F.Fl.eqS b a := by
  unfold F.Fl.eqS
  rw [Bool.and_comm (!F.Fl.nan a), show decide (F.Fl.srI a = F.Fl.srI b) = decide (F.Fl.srI b = F.Fl.srI a) from decide_eq_decide.2 ⟨Eq.symm, Eq.symm⟩]
theorem ho_f (op a b : Int) : fcmpF op a b = hoF op (F.Fl.eqS a b) (F.Fl.lessS a b) (F.Fl.lessS b a) := by
  unfold fcmpF hoF
  rw [eqS_comm b a]
theorem ho_i (op a b : Int) (ha : U64 a) (hb : U64 b) : cmpF op (Z.cmpS (wrap64 a) (wrap64 b)) = hoF op (a == b) (decide (wrap64 a < wrap64 b)) (decide (wrap64 b < wrap64 a)) := by
  rw [wrap_inj ha hb]
  generalize wrap64 a = x
  generalize wrap64 b = y
  unfold cmpF hoF Z.cmpS
  rcases Int.lt_trichotomy x y with h | h | h
  · have h1 : ¬ x = y := by omega
    have h2 : ¬ y < x := by omega
    simp [h, h1, h2]
  · subst h
    simp
  · have h1 : ¬ x = y := by omega
    have h2 : ¬ x < y := by omega
    simp [h, h1, h2]
theorem ho_b (op a b : Int) (ha : U64 a) (hb : U64 b) (h1 : a ≤ 1) (h2 : b ≤ 1) (ho : op = 6 ∨ op = 7) : boolsF op (a == 1) (b == 1) = truthF (hoF op (a == b) (decide (wrap64 a < wrap64 b)) (decide (wrap64 b < wrap64 a))) := by
  obtain ⟨a0, _⟩ := (show Ty.U64 a from ha)
  obtain ⟨b0, _⟩ := (show Ty.U64 b from hb)
  rcases (show a = 0 ∨ a = 1 by omega) with rfl | rfl <;> rcases (show b = 0 ∨ b = 1 by omega) with rfl | rfl <;> rcases ho with rfl | rfl <;> rfl
theorem bin_cases {op ta tb : Int} (h : (Ty.binS op ta tb).2 = 0) : (ta = 1 ∧ 1 ≤ op ∧ op ≤ 11) ∨ (ta = 2 ∧ ((1 ≤ op ∧ op ≤ 4) ∨ (6 ≤ op ∧ op ≤ 11))) ∨ (ta = 3 ∧ (op = 6 ∨ op = 7 ∨ op = 12 ∨ op = 13)) := by
  unfold Ty.binS at h
  by_cases h0 : op < 1 ∨ 13 < op
  · rw [if_pos h0] at h; cases h
  rw [if_neg h0] at h
  by_cases h1 : ta ≠ tb
  · rw [if_pos h1] at h; cases h
  rw [if_neg h1] at h
  unfold Ty.takenS Ty.rowB at h
  by_cases t1 : ta = 1
  · refine Or.inl ⟨t1, by omega, ?_⟩
    by_cases hop : op ≤ 11
    · exact hop
    · have c1 : ¬ op ≤ 4 := by omega
      have c2 : ¬ op = 5 := by omega
      have c3 : ¬ op ≤ 7 := by omega
      simp [t1, c1, c2, c3, hop] at h
  by_cases t2 : ta = 2
  · refine Or.inr (Or.inl ⟨t2, ?_⟩)
    by_cases c1 : op ≤ 4
    · exact Or.inl ⟨by omega, c1⟩
    by_cases c2 : op = 5
    · simp [t2, c1, c2] at h
    by_cases hop : op ≤ 11
    · exact Or.inr ⟨by omega, hop⟩
    · have c3 : ¬ op ≤ 7 := by omega
      simp [t2, c1, c2, c3, hop] at h
  by_cases t3 : ta = 3
  · refine Or.inr (Or.inr ⟨t3, ?_⟩)
    by_cases c1 : op ≤ 4
    · simp [t3, c1] at h
    by_cases c2 : op = 5
    · simp [t3, c1, c2] at h
    by_cases c3 : op ≤ 7
    · omega
    by_cases hop : op ≤ 11
    · simp [t3, c1, c2, c3, hop] at h
    · omega
  · simp [t1, t2, t3] at h
theorem un_cases {op ta : Int} (h : (Ty.unS op ta).2 = 0) : (op = 1 ∧ (ta = 1 ∨ ta = 2)) ∨ (op = 2 ∧ ta = 3) ∨ (op = 3 ∧ ta = 2) ∨ (op = 4 ∧ ta = 1) := by
  unfold Ty.unS at h
  by_cases h1 : op = 1
  · rw [if_pos h1] at h
    by_cases t1 : ta = 1
    · exact Or.inl ⟨h1, Or.inl t1⟩
    by_cases t2 : ta = 2
    · exact Or.inl ⟨h1, Or.inr t2⟩
    rw [if_neg t1, if_neg t2] at h; cases h
  by_cases h2 : op = 2
  · rw [if_neg h1, if_pos h2] at h
    by_cases t3 : ta = 3
    · exact Or.inr (Or.inl ⟨h2, t3⟩)
    rw [if_neg t3] at h; cases h
  by_cases h3 : op = 3
  · rw [if_neg h1, if_neg h2, if_pos h3] at h
    by_cases t2 : ta = 2
    · exact Or.inr (Or.inr (Or.inl ⟨h3, t2⟩))
    rw [if_neg t2] at h; cases h
  by_cases h4 : op = 4
  · rw [if_neg h1, if_neg h2, if_neg h3, if_pos h4] at h
    by_cases t1 : ta = 1
    · exact Or.inr (Or.inr (Or.inr ⟨h4, t1⟩))
    rw [if_neg t1] at h; cases h
  rw [if_neg h1, if_neg h2, if_neg h3, if_neg h4] at h; cases h
theorem same_fr {f : FuncId} {args : Array Value} {w : World} {v : Value} (h : Calls Tryz.prog f args w fun e w' => e = .returned v ∧ w' = w) : Calls Tryz.prog f args w fun e w' => e = .returned v ∧ Fr (fun _ => False) w w' :=
  h.mono fun e w' ⟨h1, h2⟩ => ⟨h1, by rw [h2]; exact Fr.refl _ _⟩
set_option maxRecDepth 20000 in
set_option maxHeartbeats 2000000 in
theorem rbin_e (op ta va tb vb : Int) (ha : U64 va) (hb : U64 vb) (he : (Ty.binS op ta tb).2 ≠ 0) (w : World) : Calls Tryz.prog 7 #[ci op, .agg #[.int .i64 ta, .int .u64 va], .agg #[.int .i64 tb, .int .u64 vb]] w fun r w' => r = .returned (.tuple #[vv (binF op (ta, va) (tb, vb)).1, ci (binF op (ta, va) (tb, vb)).2]) ∧ Fr (fun _ => False) w w' := by
  have hA : Hidden ((((w.alloc (zb (ci ta) (.int .u64 va))).alloc (zb (ci tb) (.int .u64 vb))).alloc zo).heap[w.heap.size]? = some (zb (ci ta) (.int .u64 va))) := (alloc_old _ _ _ (by simp; omega)).trans ((alloc_old _ _ _ (by simp)).trans (alloc_new _ _))
  have hB : Hidden ((((w.alloc (zb (ci ta) (.int .u64 va))).alloc (zb (ci tb) (.int .u64 vb))).alloc zo).heap[w.heap.size + 1]? = some (zb (ci tb) (.int .u64 vb))) := (alloc_old _ _ _ (by simp)).trans (alloc_at _ _ _ (by simp))
  have hC : Hidden ((((w.alloc (zb (ci ta) (.int .u64 va))).alloc (zb (ci tb) (.int .u64 vb))).alloc zo).heap[w.heap.size + 2]? = some zo) := alloc_at _ _ _ (by simp)
  have f0 : Fr (fun _ => False) w (((w.alloc (zb (ci ta) (.int .u64 va))).alloc (zb (ci tb) (.int .u64 vb))).alloc zo) := ((Fr.alloc _ _ _).same (Fr.alloc _ _ _)).same (Fr.alloc _ _ _)
  have kB := fun w => same_fr (Ty.rbinary_any op ta tb w)
  have kRa := Ty.rrightv_any ta va ha
  have kRb := Ty.rrightv_any tb vb hb
  rw [binF_no (a := (ta, va)) (b := (tb, vb)) (Or.inl he)]
  generalize Ty.binS op ta tb = P at *
  obtain ⟨p, e⟩ := P
  dsimp only at kB
  dsimp only at he
  have he' : (e != 0) = true := by simp [he]
  dsimp only [vv]
  clear ha hb he kRa kRb
  go_enter Tryz.func7, Tryz.ntmps7
  go_wp2_with fail
  go_at_call 33
  refine (kB _).mono ?_
  rintro r w1 ⟨rfl, g1⟩
  have f1 := g1
  have qa1 := f1.heap hA (fun f => f)
  have qb1 := f1.heap hB (fun f => f)
  have qc1 := f1.heap hC (fun f => f)
  obtain ⟨a10, a11, a12, a13⟩ := box2 qa1
  obtain ⟨b10, b11, b12, b13⟩ := box2 qb1
  obtain ⟨c10, c11, c12, c13⟩ := box2 qc1
  go_wp2_with fail
  exact post_v (set_two qc1 _ _) rfl rfl rfl ⟨rfl, fr_two (f0.same f1) (by omega) _ _⟩
set_option maxRecDepth 20000 in
set_option maxHeartbeats 2000000 in
theorem rbin_a (op ta va tb vb : Int) (ha : U64 va) (hb : U64 vb) (he : (Ty.binS op ta tb).2 = 0) (h1 : Ty.rightV ta va = false) (w : World) : Calls Tryz.prog 7 #[ci op, .agg #[.int .i64 ta, .int .u64 va], .agg #[.int .i64 tb, .int .u64 vb]] w fun r w' => r = .returned (.tuple #[vv (binF op (ta, va) (tb, vb)).1, ci (binF op (ta, va) (tb, vb)).2]) ∧ Fr (fun _ => False) w w' := by
  have hA : Hidden ((((w.alloc (zb (ci ta) (.int .u64 va))).alloc (zb (ci tb) (.int .u64 vb))).alloc zo).heap[w.heap.size]? = some (zb (ci ta) (.int .u64 va))) := (alloc_old _ _ _ (by simp; omega)).trans ((alloc_old _ _ _ (by simp)).trans (alloc_new _ _))
  have hB : Hidden ((((w.alloc (zb (ci ta) (.int .u64 va))).alloc (zb (ci tb) (.int .u64 vb))).alloc zo).heap[w.heap.size + 1]? = some (zb (ci tb) (.int .u64 vb))) := (alloc_old _ _ _ (by simp)).trans (alloc_at _ _ _ (by simp))
  have hC : Hidden ((((w.alloc (zb (ci ta) (.int .u64 va))).alloc (zb (ci tb) (.int .u64 vb))).alloc zo).heap[w.heap.size + 2]? = some zo) := alloc_at _ _ _ (by simp)
  have f0 : Fr (fun _ => False) w (((w.alloc (zb (ci ta) (.int .u64 va))).alloc (zb (ci tb) (.int .u64 vb))).alloc zo) := ((Fr.alloc _ _ _).same (Fr.alloc _ _ _)).same (Fr.alloc _ _ _)
  have kB := fun w => same_fr (Ty.rbinary_any op ta tb w)
  have kRa := Ty.rrightv_any ta va ha
  have kRb := Ty.rrightv_any tb vb hb
  rw [binF_no (a := (ta, va)) (b := (tb, vb)) (Or.inr (Or.inl h1))]
  rw [h1] at kRa
  rw [he] at kB
  generalize (Ty.binS op ta tb).1 = p at *
  dsimp only [vv]
  clear ha hb he h1 kRb
  go_enter Tryz.func7, Tryz.ntmps7
  go_wp2_with fail
  go_at_call 33
  refine (kB _).mono ?_
  rintro r w1 ⟨rfl, g1⟩
  have f1 := g1
  have qa1 := f1.heap hA (fun f => f)
  have qb1 := f1.heap hB (fun f => f)
  have qc1 := f1.heap hC (fun f => f)
  obtain ⟨a10, a11, a12, a13⟩ := box2 qa1
  obtain ⟨b10, b11, b12, b13⟩ := box2 qb1
  obtain ⟨c10, c11, c12, c13⟩ := box2 qc1
  go_wp2_with fail
  go_at_call 20
  refine (kRa _).mono ?_
  rintro r w2 ⟨rfl, g2⟩
  have f2 := f1.same g2
  have qa2 := f2.heap hA (fun f => f)
  have qb2 := f2.heap hB (fun f => f)
  have qc2 := f2.heap hC (fun f => f)
  obtain ⟨a20, a21, a22, a23⟩ := box2 qa2
  obtain ⟨b20, b21, b22, b23⟩ := box2 qb2
  obtain ⟨c20, c21, c22, c23⟩ := box2 qc2
  go_wp2_with fail
  exact post_v (set_two qc2 _ _) rfl rfl rfl ⟨rfl, fr_two (f0.same f2) (by omega) _ _⟩
set_option maxRecDepth 20000 in
set_option maxHeartbeats 2000000 in
theorem rbin_b (op ta va tb vb : Int) (ha : U64 va) (hb : U64 vb) (he : (Ty.binS op ta tb).2 = 0) (h1 : Ty.rightV ta va = true) (h2 : Ty.rightV tb vb = false) (w : World) : Calls Tryz.prog 7 #[ci op, .agg #[.int .i64 ta, .int .u64 va], .agg #[.int .i64 tb, .int .u64 vb]] w fun r w' => r = .returned (.tuple #[vv (binF op (ta, va) (tb, vb)).1, ci (binF op (ta, va) (tb, vb)).2]) ∧ Fr (fun _ => False) w w' := by
  have hA : Hidden ((((w.alloc (zb (ci ta) (.int .u64 va))).alloc (zb (ci tb) (.int .u64 vb))).alloc zo).heap[w.heap.size]? = some (zb (ci ta) (.int .u64 va))) := (alloc_old _ _ _ (by simp; omega)).trans ((alloc_old _ _ _ (by simp)).trans (alloc_new _ _))
  have hB : Hidden ((((w.alloc (zb (ci ta) (.int .u64 va))).alloc (zb (ci tb) (.int .u64 vb))).alloc zo).heap[w.heap.size + 1]? = some (zb (ci tb) (.int .u64 vb))) := (alloc_old _ _ _ (by simp)).trans (alloc_at _ _ _ (by simp))
  have hC : Hidden ((((w.alloc (zb (ci ta) (.int .u64 va))).alloc (zb (ci tb) (.int .u64 vb))).alloc zo).heap[w.heap.size + 2]? = some zo) := alloc_at _ _ _ (by simp)
  have f0 : Fr (fun _ => False) w (((w.alloc (zb (ci ta) (.int .u64 va))).alloc (zb (ci tb) (.int .u64 vb))).alloc zo) := ((Fr.alloc _ _ _).same (Fr.alloc _ _ _)).same (Fr.alloc _ _ _)
  have kB := fun w => same_fr (Ty.rbinary_any op ta tb w)
  have kRa := Ty.rrightv_any ta va ha
  have kRb := Ty.rrightv_any tb vb hb
  rw [binF_no (a := (ta, va)) (b := (tb, vb)) (Or.inr (Or.inr h2))]
  rw [h1] at kRa
  rw [h2] at kRb
  rw [he] at kB
  generalize (Ty.binS op ta tb).1 = p at *
  dsimp only [vv]
  clear ha hb he h1 h2
  go_enter Tryz.func7, Tryz.ntmps7
  go_wp2_with fail
  go_at_call 33
  refine (kB _).mono ?_
  rintro r w1 ⟨rfl, g1⟩
  have f1 := g1
  have qa1 := f1.heap hA (fun f => f)
  have qb1 := f1.heap hB (fun f => f)
  have qc1 := f1.heap hC (fun f => f)
  obtain ⟨a10, a11, a12, a13⟩ := box2 qa1
  obtain ⟨b10, b11, b12, b13⟩ := box2 qb1
  obtain ⟨c10, c11, c12, c13⟩ := box2 qc1
  go_wp2_with fail
  go_at_call 20
  refine (kRa _).mono ?_
  rintro r w2 ⟨rfl, g2⟩
  have f2 := f1.same g2
  have qa2 := f2.heap hA (fun f => f)
  have qb2 := f2.heap hB (fun f => f)
  have qc2 := f2.heap hC (fun f => f)
  obtain ⟨a20, a21, a22, a23⟩ := box2 qa2
  obtain ⟨b20, b21, b22, b23⟩ := box2 qb2
  obtain ⟨c20, c21, c22, c23⟩ := box2 qc2
  go_wp2_with fail
  go_at_call 20
  refine (kRb _).mono ?_
  rintro r w3 ⟨rfl, g3⟩
  have f3 := f2.same g3
  have qa3 := f3.heap hA (fun f => f)
  have qb3 := f3.heap hB (fun f => f)
  have qc3 := f3.heap hC (fun f => f)
  obtain ⟨a30, a31, a32, a33⟩ := box2 qa3
  obtain ⟨b30, b31, b32, b33⟩ := box2 qb3
  obtain ⟨c30, c31, c32, c33⟩ := box2 qc3
  go_wp2_with fail
  exact post_v (set_two qc3 _ _) rfl rfl rfl ⟨rfl, fr_two (f0.same f3) (by omega) _ _⟩
set_option maxRecDepth 20000 in
set_option maxHeartbeats 2000000 in
theorem rbin_1200  (w : World) : Calls Tryz.prog 7 #[ci 12, .agg #[.int .i64 3, .int .u64 0], .agg #[.int .i64 3, .int .u64 0]] w fun r w' => r = .returned (.tuple #[vv (binF 12 (3, 0) (3, 0)).1, ci (binF 12 (3, 0) (3, 0)).2]) ∧ Fr (fun _ => False) w w' := by
  have hA : Hidden ((((w.alloc (zb (ci 3) (.int .u64 0))).alloc (zb (ci 3) (.int .u64 0))).alloc zo).heap[w.heap.size]? = some (zb (ci 3) (.int .u64 0))) := (alloc_old _ _ _ (by simp; omega)).trans ((alloc_old _ _ _ (by simp)).trans (alloc_new _ _))
  have hB : Hidden ((((w.alloc (zb (ci 3) (.int .u64 0))).alloc (zb (ci 3) (.int .u64 0))).alloc zo).heap[w.heap.size + 1]? = some (zb (ci 3) (.int .u64 0))) := (alloc_old _ _ _ (by simp)).trans (alloc_at _ _ _ (by simp))
  have hC : Hidden ((((w.alloc (zb (ci 3) (.int .u64 0))).alloc (zb (ci 3) (.int .u64 0))).alloc zo).heap[w.heap.size + 2]? = some zo) := alloc_at _ _ _ (by simp)
  have f0 : Fr (fun _ => False) w (((w.alloc (zb (ci 3) (.int .u64 0))).alloc (zb (ci 3) (.int .u64 0))).alloc zo) := ((Fr.alloc _ _ _).same (Fr.alloc _ _ _)).same (Fr.alloc _ _ _)
  have kB := fun w => same_fr (Ty.rbinary_any 12 3 3 w)
  have kRa := Ty.rrightv_any 3 0 ⟨by decide, by decide⟩
  have kRb := Ty.rrightv_any 3 0 ⟨by decide, by decide⟩
  rw [show binF 12 (3, 0) (3, 0) = ((3, 0), 0) by decide +kernel]
  rw [show Ty.binS 12 3 3 = (3, 0) from rfl] at kB
  rw [show Ty.rightV 3 0 = true from rfl] at kRa
  rw [show Ty.rightV 3 0 = true from rfl] at kRb
  have kI := rtruth_any false
  rw [show truthF false = (3, 0) from rfl] at kI
  dsimp only [vv] at kB kI ⊢
  go_enter Tryz.func7, Tryz.ntmps7
  go_wp2_with fail
  go_at_call 33
  refine (kB _).mono ?_
  rintro r w1 ⟨rfl, g1⟩
  have f1 := g1
  have qa1 := f1.heap hA (fun f => f)
  have qb1 := f1.heap hB (fun f => f)
  have qc1 := f1.heap hC (fun f => f)
  obtain ⟨a10, a11, a12, a13⟩ := box2 qa1
  obtain ⟨b10, b11, b12, b13⟩ := box2 qb1
  obtain ⟨c10, c11, c12, c13⟩ := box2 qc1
  go_wp2_with fail
  go_at_call 20
  refine (kRa _).mono ?_
  rintro r w2 ⟨rfl, g2⟩
  have f2 := f1.same g2
  have qa2 := f2.heap hA (fun f => f)
  have qb2 := f2.heap hB (fun f => f)
  have qc2 := f2.heap hC (fun f => f)
  obtain ⟨a20, a21, a22, a23⟩ := box2 qa2
  obtain ⟨b20, b21, b22, b23⟩ := box2 qb2
  obtain ⟨c20, c21, c22, c23⟩ := box2 qc2
  go_wp2_with fail
  go_at_call 20
  refine (kRb _).mono ?_
  rintro r w3 ⟨rfl, g3⟩
  have f3 := f2.same g3
  have qa3 := f3.heap hA (fun f => f)
  have qb3 := f3.heap hB (fun f => f)
  have qc3 := f3.heap hC (fun f => f)
  obtain ⟨a30, a31, a32, a33⟩ := box2 qa3
  obtain ⟨b30, b31, b32, b33⟩ := box2 qb3
  obtain ⟨c30, c31, c32, c33⟩ := box2 qc3
  go_wp2_with fail
  go_at_call 26
  refine (kI _).mono ?_
  rintro r w4 ⟨rfl, g4⟩
  have f4 := f3.same g4
  have qa4 := f4.heap hA (fun f => f)
  have qb4 := f4.heap hB (fun f => f)
  have qc4 := f4.heap hC (fun f => f)
  obtain ⟨a40, a41, a42, a43⟩ := box2 qa4
  obtain ⟨b40, b41, b42, b43⟩ := box2 qb4
  obtain ⟨c40, c41, c42, c43⟩ := box2 qc4
  go_wp2_with fail
  exact post_v (set_two qc4 _ _) rfl rfl rfl ⟨rfl, fr_two (f0.same f4) (by omega) _ _⟩
set_option maxRecDepth 20000 in
set_option maxHeartbeats 2000000 in
theorem rbin_1201  (w : World) : Calls Tryz.prog 7 #[ci 12, .agg #[.int .i64 3, .int .u64 0], .agg #[.int .i64 3, .int .u64 1]] w fun r w' => r = .returned (.tuple #[vv (binF 12 (3, 0) (3, 1)).1, ci (binF 12 (3, 0) (3, 1)).2]) ∧ Fr (fun _ => False) w w' := by
  have hA : Hidden ((((w.alloc (zb (ci 3) (.int .u64 0))).alloc (zb (ci 3) (.int .u64 1))).alloc zo).heap[w.heap.size]? = some (zb (ci 3) (.int .u64 0))) := (alloc_old _ _ _ (by simp; omega)).trans ((alloc_old _ _ _ (by simp)).trans (alloc_new _ _))
  have hB : Hidden ((((w.alloc (zb (ci 3) (.int .u64 0))).alloc (zb (ci 3) (.int .u64 1))).alloc zo).heap[w.heap.size + 1]? = some (zb (ci 3) (.int .u64 1))) := (alloc_old _ _ _ (by simp)).trans (alloc_at _ _ _ (by simp))
  have hC : Hidden ((((w.alloc (zb (ci 3) (.int .u64 0))).alloc (zb (ci 3) (.int .u64 1))).alloc zo).heap[w.heap.size + 2]? = some zo) := alloc_at _ _ _ (by simp)
  have f0 : Fr (fun _ => False) w (((w.alloc (zb (ci 3) (.int .u64 0))).alloc (zb (ci 3) (.int .u64 1))).alloc zo) := ((Fr.alloc _ _ _).same (Fr.alloc _ _ _)).same (Fr.alloc _ _ _)
  have kB := fun w => same_fr (Ty.rbinary_any 12 3 3 w)
  have kRa := Ty.rrightv_any 3 0 ⟨by decide, by decide⟩
  have kRb := Ty.rrightv_any 3 1 ⟨by decide, by decide⟩
  rw [show binF 12 (3, 0) (3, 1) = ((3, 0), 0) by decide +kernel]
  rw [show Ty.binS 12 3 3 = (3, 0) from rfl] at kB
  rw [show Ty.rightV 3 0 = true from rfl] at kRa
  rw [show Ty.rightV 3 1 = true from rfl] at kRb
  have kI := rtruth_any false
  rw [show truthF false = (3, 0) from rfl] at kI
  dsimp only [vv] at kB kI ⊢
  go_enter Tryz.func7, Tryz.ntmps7
  go_wp2_with fail
  go_at_call 33
  refine (kB _).mono ?_
  rintro r w1 ⟨rfl, g1⟩
  have f1 := g1
  have qa1 := f1.heap hA (fun f => f)
  have qb1 := f1.heap hB (fun f => f)
  have qc1 := f1.heap hC (fun f => f)
  obtain ⟨a10, a11, a12, a13⟩ := box2 qa1
  obtain ⟨b10, b11, b12, b13⟩ := box2 qb1
  obtain ⟨c10, c11, c12, c13⟩ := box2 qc1
  go_wp2_with fail
  go_at_call 20
  refine (kRa _).mono ?_
  rintro r w2 ⟨rfl, g2⟩
  have f2 := f1.same g2
  have qa2 := f2.heap hA (fun f => f)
  have qb2 := f2.heap hB (fun f => f)
  have qc2 := f2.heap hC (fun f => f)
  obtain ⟨a20, a21, a22, a23⟩ := box2 qa2
  obtain ⟨b20, b21, b22, b23⟩ := box2 qb2
  obtain ⟨c20, c21, c22, c23⟩ := box2 qc2
  go_wp2_with fail
  go_at_call 20
  refine (kRb _).mono ?_
  rintro r w3 ⟨rfl, g3⟩
  have f3 := f2.same g3
  have qa3 := f3.heap hA (fun f => f)
  have qb3 := f3.heap hB (fun f => f)
  have qc3 := f3.heap hC (fun f => f)
  obtain ⟨a30, a31, a32, a33⟩ := box2 qa3
  obtain ⟨b30, b31, b32, b33⟩ := box2 qb3
  obtain ⟨c30, c31, c32, c33⟩ := box2 qc3
  go_wp2_with fail
  go_at_call 26
  refine (kI _).mono ?_
  rintro r w4 ⟨rfl, g4⟩
  have f4 := f3.same g4
  have qa4 := f4.heap hA (fun f => f)
  have qb4 := f4.heap hB (fun f => f)
  have qc4 := f4.heap hC (fun f => f)
  obtain ⟨a40, a41, a42, a43⟩ := box2 qa4
  obtain ⟨b40, b41, b42, b43⟩ := box2 qb4
  obtain ⟨c40, c41, c42, c43⟩ := box2 qc4
  go_wp2_with fail
  exact post_v (set_two qc4 _ _) rfl rfl rfl ⟨rfl, fr_two (f0.same f4) (by omega) _ _⟩
set_option maxRecDepth 20000 in
set_option maxHeartbeats 2000000 in
theorem rbin_1210  (w : World) : Calls Tryz.prog 7 #[ci 12, .agg #[.int .i64 3, .int .u64 1], .agg #[.int .i64 3, .int .u64 0]] w fun r w' => r = .returned (.tuple #[vv (binF 12 (3, 1) (3, 0)).1, ci (binF 12 (3, 1) (3, 0)).2]) ∧ Fr (fun _ => False) w w' := by
  have hA : Hidden ((((w.alloc (zb (ci 3) (.int .u64 1))).alloc (zb (ci 3) (.int .u64 0))).alloc zo).heap[w.heap.size]? = some (zb (ci 3) (.int .u64 1))) := (alloc_old _ _ _ (by simp; omega)).trans ((alloc_old _ _ _ (by simp)).trans (alloc_new _ _))
  have hB : Hidden ((((w.alloc (zb (ci 3) (.int .u64 1))).alloc (zb (ci 3) (.int .u64 0))).alloc zo).heap[w.heap.size + 1]? = some (zb (ci 3) (.int .u64 0))) := (alloc_old _ _ _ (by simp)).trans (alloc_at _ _ _ (by simp))
  have hC : Hidden ((((w.alloc (zb (ci 3) (.int .u64 1))).alloc (zb (ci 3) (.int .u64 0))).alloc zo).heap[w.heap.size + 2]? = some zo) := alloc_at _ _ _ (by simp)
  have f0 : Fr (fun _ => False) w (((w.alloc (zb (ci 3) (.int .u64 1))).alloc (zb (ci 3) (.int .u64 0))).alloc zo) := ((Fr.alloc _ _ _).same (Fr.alloc _ _ _)).same (Fr.alloc _ _ _)
  have kB := fun w => same_fr (Ty.rbinary_any 12 3 3 w)
  have kRa := Ty.rrightv_any 3 1 ⟨by decide, by decide⟩
  have kRb := Ty.rrightv_any 3 0 ⟨by decide, by decide⟩
  rw [show binF 12 (3, 1) (3, 0) = ((3, 0), 0) by decide +kernel]
  rw [show Ty.binS 12 3 3 = (3, 0) from rfl] at kB
  rw [show Ty.rightV 3 1 = true from rfl] at kRa
  rw [show Ty.rightV 3 0 = true from rfl] at kRb
  have kI := rtruth_any false
  rw [show truthF false = (3, 0) from rfl] at kI
  dsimp only [vv] at kB kI ⊢
  go_enter Tryz.func7, Tryz.ntmps7
  go_wp2_with fail
  go_at_call 33
  refine (kB _).mono ?_
  rintro r w1 ⟨rfl, g1⟩
  have f1 := g1
  have qa1 := f1.heap hA (fun f => f)
  have qb1 := f1.heap hB (fun f => f)
  have qc1 := f1.heap hC (fun f => f)
  obtain ⟨a10, a11, a12, a13⟩ := box2 qa1
  obtain ⟨b10, b11, b12, b13⟩ := box2 qb1
  obtain ⟨c10, c11, c12, c13⟩ := box2 qc1
  go_wp2_with fail
  go_at_call 20
  refine (kRa _).mono ?_
  rintro r w2 ⟨rfl, g2⟩
  have f2 := f1.same g2
  have qa2 := f2.heap hA (fun f => f)
  have qb2 := f2.heap hB (fun f => f)
  have qc2 := f2.heap hC (fun f => f)
  obtain ⟨a20, a21, a22, a23⟩ := box2 qa2
  obtain ⟨b20, b21, b22, b23⟩ := box2 qb2
  obtain ⟨c20, c21, c22, c23⟩ := box2 qc2
  go_wp2_with fail
  go_at_call 20
  refine (kRb _).mono ?_
  rintro r w3 ⟨rfl, g3⟩
  have f3 := f2.same g3
  have qa3 := f3.heap hA (fun f => f)
  have qb3 := f3.heap hB (fun f => f)
  have qc3 := f3.heap hC (fun f => f)
  obtain ⟨a30, a31, a32, a33⟩ := box2 qa3
  obtain ⟨b30, b31, b32, b33⟩ := box2 qb3
  obtain ⟨c30, c31, c32, c33⟩ := box2 qc3
  go_wp2_with fail
  go_at_call 26
  refine (kI _).mono ?_
  rintro r w4 ⟨rfl, g4⟩
  have f4 := f3.same g4
  have qa4 := f4.heap hA (fun f => f)
  have qb4 := f4.heap hB (fun f => f)
  have qc4 := f4.heap hC (fun f => f)
  obtain ⟨a40, a41, a42, a43⟩ := box2 qa4
  obtain ⟨b40, b41, b42, b43⟩ := box2 qb4
  obtain ⟨c40, c41, c42, c43⟩ := box2 qc4
  go_wp2_with fail
  exact post_v (set_two qc4 _ _) rfl rfl rfl ⟨rfl, fr_two (f0.same f4) (by omega) _ _⟩
set_option maxRecDepth 20000 in
set_option maxHeartbeats 2000000 in
theorem rbin_1211  (w : World) : Calls Tryz.prog 7 #[ci 12, .agg #[.int .i64 3, .int .u64 1], .agg #[.int .i64 3, .int .u64 1]] w fun r w' => r = .returned (.tuple #[vv (binF 12 (3, 1) (3, 1)).1, ci (binF 12 (3, 1) (3, 1)).2]) ∧ Fr (fun _ => False) w w' := by
  have hA : Hidden ((((w.alloc (zb (ci 3) (.int .u64 1))).alloc (zb (ci 3) (.int .u64 1))).alloc zo).heap[w.heap.size]? = some (zb (ci 3) (.int .u64 1))) := (alloc_old _ _ _ (by simp; omega)).trans ((alloc_old _ _ _ (by simp)).trans (alloc_new _ _))
  have hB : Hidden ((((w.alloc (zb (ci 3) (.int .u64 1))).alloc (zb (ci 3) (.int .u64 1))).alloc zo).heap[w.heap.size + 1]? = some (zb (ci 3) (.int .u64 1))) := (alloc_old _ _ _ (by simp)).trans (alloc_at _ _ _ (by simp))
  have hC : Hidden ((((w.alloc (zb (ci 3) (.int .u64 1))).alloc (zb (ci 3) (.int .u64 1))).alloc zo).heap[w.heap.size + 2]? = some zo) := alloc_at _ _ _ (by simp)
  have f0 : Fr (fun _ => False) w (((w.alloc (zb (ci 3) (.int .u64 1))).alloc (zb (ci 3) (.int .u64 1))).alloc zo) := ((Fr.alloc _ _ _).same (Fr.alloc _ _ _)).same (Fr.alloc _ _ _)
  have kB := fun w => same_fr (Ty.rbinary_any 12 3 3 w)
  have kRa := Ty.rrightv_any 3 1 ⟨by decide, by decide⟩
  have kRb := Ty.rrightv_any 3 1 ⟨by decide, by decide⟩
  rw [show binF 12 (3, 1) (3, 1) = ((3, 1), 0) by decide +kernel]
  rw [show Ty.binS 12 3 3 = (3, 0) from rfl] at kB
  rw [show Ty.rightV 3 1 = true from rfl] at kRa
  rw [show Ty.rightV 3 1 = true from rfl] at kRb
  have kI := rtruth_any true
  rw [show truthF true = (3, 1) from rfl] at kI
  dsimp only [vv] at kB kI ⊢
  go_enter Tryz.func7, Tryz.ntmps7
  go_wp2_with fail
  go_at_call 33
  refine (kB _).mono ?_
  rintro r w1 ⟨rfl, g1⟩
  have f1 := g1
  have qa1 := f1.heap hA (fun f => f)
  have qb1 := f1.heap hB (fun f => f)
  have qc1 := f1.heap hC (fun f => f)
  obtain ⟨a10, a11, a12, a13⟩ := box2 qa1
  obtain ⟨b10, b11, b12, b13⟩ := box2 qb1
  obtain ⟨c10, c11, c12, c13⟩ := box2 qc1
  go_wp2_with fail
  go_at_call 20
  refine (kRa _).mono ?_
  rintro r w2 ⟨rfl, g2⟩
  have f2 := f1.same g2
  have qa2 := f2.heap hA (fun f => f)
  have qb2 := f2.heap hB (fun f => f)
  have qc2 := f2.heap hC (fun f => f)
  obtain ⟨a20, a21, a22, a23⟩ := box2 qa2
  obtain ⟨b20, b21, b22, b23⟩ := box2 qb2
  obtain ⟨c20, c21, c22, c23⟩ := box2 qc2
  go_wp2_with fail
  go_at_call 20
  refine (kRb _).mono ?_
  rintro r w3 ⟨rfl, g3⟩
  have f3 := f2.same g3
  have qa3 := f3.heap hA (fun f => f)
  have qb3 := f3.heap hB (fun f => f)
  have qc3 := f3.heap hC (fun f => f)
  obtain ⟨a30, a31, a32, a33⟩ := box2 qa3
  obtain ⟨b30, b31, b32, b33⟩ := box2 qb3
  obtain ⟨c30, c31, c32, c33⟩ := box2 qc3
  go_wp2_with fail
  go_at_call 26
  refine (kI _).mono ?_
  rintro r w4 ⟨rfl, g4⟩
  have f4 := f3.same g4
  have qa4 := f4.heap hA (fun f => f)
  have qb4 := f4.heap hB (fun f => f)
  have qc4 := f4.heap hC (fun f => f)
  obtain ⟨a40, a41, a42, a43⟩ := box2 qa4
  obtain ⟨b40, b41, b42, b43⟩ := box2 qb4
  obtain ⟨c40, c41, c42, c43⟩ := box2 qc4
  go_wp2_with fail
  exact post_v (set_two qc4 _ _) rfl rfl rfl ⟨rfl, fr_two (f0.same f4) (by omega) _ _⟩
set_option maxRecDepth 20000 in
set_option maxHeartbeats 2000000 in
theorem rbin_1300  (w : World) : Calls Tryz.prog 7 #[ci 13, .agg #[.int .i64 3, .int .u64 0], .agg #[.int .i64 3, .int .u64 0]] w fun r w' => r = .returned (.tuple #[vv (binF 13 (3, 0) (3, 0)).1, ci (binF 13 (3, 0) (3, 0)).2]) ∧ Fr (fun _ => False) w w' := by
  have hA : Hidden ((((w.alloc (zb (ci 3) (.int .u64 0))).alloc (zb (ci 3) (.int .u64 0))).alloc zo).heap[w.heap.size]? = some (zb (ci 3) (.int .u64 0))) := (alloc_old _ _ _ (by simp; omega)).trans ((alloc_old _ _ _ (by simp)).trans (alloc_new _ _))
  have hB : Hidden ((((w.alloc (zb (ci 3) (.int .u64 0))).alloc (zb (ci 3) (.int .u64 0))).alloc zo).heap[w.heap.size + 1]? = some (zb (ci 3) (.int .u64 0))) := (alloc_old _ _ _ (by simp)).trans (alloc_at _ _ _ (by simp))
  have hC : Hidden ((((w.alloc (zb (ci 3) (.int .u64 0))).alloc (zb (ci 3) (.int .u64 0))).alloc zo).heap[w.heap.size + 2]? = some zo) := alloc_at _ _ _ (by simp)
  have f0 : Fr (fun _ => False) w (((w.alloc (zb (ci 3) (.int .u64 0))).alloc (zb (ci 3) (.int .u64 0))).alloc zo) := ((Fr.alloc _ _ _).same (Fr.alloc _ _ _)).same (Fr.alloc _ _ _)
  have kB := fun w => same_fr (Ty.rbinary_any 13 3 3 w)
  have kRa := Ty.rrightv_any 3 0 ⟨by decide, by decide⟩
  have kRb := Ty.rrightv_any 3 0 ⟨by decide, by decide⟩
  rw [show binF 13 (3, 0) (3, 0) = ((3, 0), 0) by decide +kernel]
  rw [show Ty.binS 13 3 3 = (3, 0) from rfl] at kB
  rw [show Ty.rightV 3 0 = true from rfl] at kRa
  rw [show Ty.rightV 3 0 = true from rfl] at kRb
  have kI := rtruth_any false
  rw [show truthF false = (3, 0) from rfl] at kI
  dsimp only [vv] at kB kI ⊢
  go_enter Tryz.func7, Tryz.ntmps7
  go_wp2_with fail
  go_at_call 33
  refine (kB _).mono ?_
  rintro r w1 ⟨rfl, g1⟩
  have f1 := g1
  have qa1 := f1.heap hA (fun f => f)
  have qb1 := f1.heap hB (fun f => f)
  have qc1 := f1.heap hC (fun f => f)
  obtain ⟨a10, a11, a12, a13⟩ := box2 qa1
  obtain ⟨b10, b11, b12, b13⟩ := box2 qb1
  obtain ⟨c10, c11, c12, c13⟩ := box2 qc1
  go_wp2_with fail
  go_at_call 20
  refine (kRa _).mono ?_
  rintro r w2 ⟨rfl, g2⟩
  have f2 := f1.same g2
  have qa2 := f2.heap hA (fun f => f)
  have qb2 := f2.heap hB (fun f => f)
  have qc2 := f2.heap hC (fun f => f)
  obtain ⟨a20, a21, a22, a23⟩ := box2 qa2
  obtain ⟨b20, b21, b22, b23⟩ := box2 qb2
  obtain ⟨c20, c21, c22, c23⟩ := box2 qc2
  go_wp2_with fail
  go_at_call 20
  refine (kRb _).mono ?_
  rintro r w3 ⟨rfl, g3⟩
  have f3 := f2.same g3
  have qa3 := f3.heap hA (fun f => f)
  have qb3 := f3.heap hB (fun f => f)
  have qc3 := f3.heap hC (fun f => f)
  obtain ⟨a30, a31, a32, a33⟩ := box2 qa3
  obtain ⟨b30, b31, b32, b33⟩ := box2 qb3
  obtain ⟨c30, c31, c32, c33⟩ := box2 qc3
  go_wp2_with fail
  go_at_call 26
  refine (kI _).mono ?_
  rintro r w4 ⟨rfl, g4⟩
  have f4 := f3.same g4
  have qa4 := f4.heap hA (fun f => f)
  have qb4 := f4.heap hB (fun f => f)
  have qc4 := f4.heap hC (fun f => f)
  obtain ⟨a40, a41, a42, a43⟩ := box2 qa4
  obtain ⟨b40, b41, b42, b43⟩ := box2 qb4
  obtain ⟨c40, c41, c42, c43⟩ := box2 qc4
  go_wp2_with fail
  exact post_v (set_two qc4 _ _) rfl rfl rfl ⟨rfl, fr_two (f0.same f4) (by omega) _ _⟩
set_option maxRecDepth 20000 in
set_option maxHeartbeats 2000000 in
theorem rbin_1301  (w : World) : Calls Tryz.prog 7 #[ci 13, .agg #[.int .i64 3, .int .u64 0], .agg #[.int .i64 3, .int .u64 1]] w fun r w' => r = .returned (.tuple #[vv (binF 13 (3, 0) (3, 1)).1, ci (binF 13 (3, 0) (3, 1)).2]) ∧ Fr (fun _ => False) w w' := by
  have hA : Hidden ((((w.alloc (zb (ci 3) (.int .u64 0))).alloc (zb (ci 3) (.int .u64 1))).alloc zo).heap[w.heap.size]? = some (zb (ci 3) (.int .u64 0))) := (alloc_old _ _ _ (by simp; omega)).trans ((alloc_old _ _ _ (by simp)).trans (alloc_new _ _))
  have hB : Hidden ((((w.alloc (zb (ci 3) (.int .u64 0))).alloc (zb (ci 3) (.int .u64 1))).alloc zo).heap[w.heap.size + 1]? = some (zb (ci 3) (.int .u64 1))) := (alloc_old _ _ _ (by simp)).trans (alloc_at _ _ _ (by simp))
  have hC : Hidden ((((w.alloc (zb (ci 3) (.int .u64 0))).alloc (zb (ci 3) (.int .u64 1))).alloc zo).heap[w.heap.size + 2]? = some zo) := alloc_at _ _ _ (by simp)
  have f0 : Fr (fun _ => False) w (((w.alloc (zb (ci 3) (.int .u64 0))).alloc (zb (ci 3) (.int .u64 1))).alloc zo) := ((Fr.alloc _ _ _).same (Fr.alloc _ _ _)).same (Fr.alloc _ _ _)
  have kB := fun w => same_fr (Ty.rbinary_any 13 3 3 w)
  have kRa := Ty.rrightv_any 3 0 ⟨by decide, by decide⟩
  have kRb := Ty.rrightv_any 3 1 ⟨by decide, by decide⟩
  rw [show binF 13 (3, 0) (3, 1) = ((3, 1), 0) by decide +kernel]
  rw [show Ty.binS 13 3 3 = (3, 0) from rfl] at kB
  rw [show Ty.rightV 3 0 = true from rfl] at kRa
  rw [show Ty.rightV 3 1 = true from rfl] at kRb
  have kI := rtruth_any true
  rw [show truthF true = (3, 1) from rfl] at kI
  dsimp only [vv] at kB kI ⊢
  go_enter Tryz.func7, Tryz.ntmps7
  go_wp2_with fail
  go_at_call 33
  refine (kB _).mono ?_
  rintro r w1 ⟨rfl, g1⟩
  have f1 := g1
  have qa1 := f1.heap hA (fun f => f)
  have qb1 := f1.heap hB (fun f => f)
  have qc1 := f1.heap hC (fun f => f)
  obtain ⟨a10, a11, a12, a13⟩ := box2 qa1
  obtain ⟨b10, b11, b12, b13⟩ := box2 qb1
  obtain ⟨c10, c11, c12, c13⟩ := box2 qc1
  go_wp2_with fail
  go_at_call 20
  refine (kRa _).mono ?_
  rintro r w2 ⟨rfl, g2⟩
  have f2 := f1.same g2
  have qa2 := f2.heap hA (fun f => f)
  have qb2 := f2.heap hB (fun f => f)
  have qc2 := f2.heap hC (fun f => f)
  obtain ⟨a20, a21, a22, a23⟩ := box2 qa2
  obtain ⟨b20, b21, b22, b23⟩ := box2 qb2
  obtain ⟨c20, c21, c22, c23⟩ := box2 qc2
  go_wp2_with fail
  go_at_call 20
  refine (kRb _).mono ?_
  rintro r w3 ⟨rfl, g3⟩
  have f3 := f2.same g3
  have qa3 := f3.heap hA (fun f => f)
  have qb3 := f3.heap hB (fun f => f)
  have qc3 := f3.heap hC (fun f => f)
  obtain ⟨a30, a31, a32, a33⟩ := box2 qa3
  obtain ⟨b30, b31, b32, b33⟩ := box2 qb3
  obtain ⟨c30, c31, c32, c33⟩ := box2 qc3
  go_wp2_with fail
  go_at_call 26
  refine (kI _).mono ?_
  rintro r w4 ⟨rfl, g4⟩
  have f4 := f3.same g4
  have qa4 := f4.heap hA (fun f => f)
  have qb4 := f4.heap hB (fun f => f)
  have qc4 := f4.heap hC (fun f => f)
  obtain ⟨a40, a41, a42, a43⟩ := box2 qa4
  obtain ⟨b40, b41, b42, b43⟩ := box2 qb4
  obtain ⟨c40, c41, c42, c43⟩ := box2 qc4
  go_wp2_with fail
  exact post_v (set_two qc4 _ _) rfl rfl rfl ⟨rfl, fr_two (f0.same f4) (by omega) _ _⟩
set_option maxRecDepth 20000 in
set_option maxHeartbeats 2000000 in
theorem rbin_1310  (w : World) : Calls Tryz.prog 7 #[ci 13, .agg #[.int .i64 3, .int .u64 1], .agg #[.int .i64 3, .int .u64 0]] w fun r w' => r = .returned (.tuple #[vv (binF 13 (3, 1) (3, 0)).1, ci (binF 13 (3, 1) (3, 0)).2]) ∧ Fr (fun _ => False) w w' := by
  have hA : Hidden ((((w.alloc (zb (ci 3) (.int .u64 1))).alloc (zb (ci 3) (.int .u64 0))).alloc zo).heap[w.heap.size]? = some (zb (ci 3) (.int .u64 1))) := (alloc_old _ _ _ (by simp; omega)).trans ((alloc_old _ _ _ (by simp)).trans (alloc_new _ _))
  have hB : Hidden ((((w.alloc (zb (ci 3) (.int .u64 1))).alloc (zb (ci 3) (.int .u64 0))).alloc zo).heap[w.heap.size + 1]? = some (zb (ci 3) (.int .u64 0))) := (alloc_old _ _ _ (by simp)).trans (alloc_at _ _ _ (by simp))
  have hC : Hidden ((((w.alloc (zb (ci 3) (.int .u64 1))).alloc (zb (ci 3) (.int .u64 0))).alloc zo).heap[w.heap.size + 2]? = some zo) := alloc_at _ _ _ (by simp)
  have f0 : Fr (fun _ => False) w (((w.alloc (zb (ci 3) (.int .u64 1))).alloc (zb (ci 3) (.int .u64 0))).alloc zo) := ((Fr.alloc _ _ _).same (Fr.alloc _ _ _)).same (Fr.alloc _ _ _)
  have kB := fun w => same_fr (Ty.rbinary_any 13 3 3 w)
  have kRa := Ty.rrightv_any 3 1 ⟨by decide, by decide⟩
  have kRb := Ty.rrightv_any 3 0 ⟨by decide, by decide⟩
  rw [show binF 13 (3, 1) (3, 0) = ((3, 1), 0) by decide +kernel]
  rw [show Ty.binS 13 3 3 = (3, 0) from rfl] at kB
  rw [show Ty.rightV 3 1 = true from rfl] at kRa
  rw [show Ty.rightV 3 0 = true from rfl] at kRb
  have kI := rtruth_any true
  rw [show truthF true = (3, 1) from rfl] at kI
  dsimp only [vv] at kB kI ⊢
  go_enter Tryz.func7, Tryz.ntmps7
  go_wp2_with fail
  go_at_call 33
  refine (kB _).mono ?_
  rintro r w1 ⟨rfl, g1⟩
  have f1 := g1
  have qa1 := f1.heap hA (fun f => f)
  have qb1 := f1.heap hB (fun f => f)
  have qc1 := f1.heap hC (fun f => f)
  obtain ⟨a10, a11, a12, a13⟩ := box2 qa1
  obtain ⟨b10, b11, b12, b13⟩ := box2 qb1
  obtain ⟨c10, c11, c12, c13⟩ := box2 qc1
  go_wp2_with fail
  go_at_call 20
  refine (kRa _).mono ?_
  rintro r w2 ⟨rfl, g2⟩
  have f2 := f1.same g2
  have qa2 := f2.heap hA (fun f => f)
  have qb2 := f2.heap hB (fun f => f)
  have qc2 := f2.heap hC (fun f => f)
  obtain ⟨a20, a21, a22, a23⟩ := box2 qa2
  obtain ⟨b20, b21, b22, b23⟩ := box2 qb2
  obtain ⟨c20, c21, c22, c23⟩ := box2 qc2
  go_wp2_with fail
  go_at_call 20
  refine (kRb _).mono ?_
  rintro r w3 ⟨rfl, g3⟩
  have f3 := f2.same g3
  have qa3 := f3.heap hA (fun f => f)
  have qb3 := f3.heap hB (fun f => f)
  have qc3 := f3.heap hC (fun f => f)
  obtain ⟨a30, a31, a32, a33⟩ := box2 qa3
  obtain ⟨b30, b31, b32, b33⟩ := box2 qb3
  obtain ⟨c30, c31, c32, c33⟩ := box2 qc3
  go_wp2_with fail
  go_at_call 26
  refine (kI _).mono ?_
  rintro r w4 ⟨rfl, g4⟩
  have f4 := f3.same g4
  have qa4 := f4.heap hA (fun f => f)
  have qb4 := f4.heap hB (fun f => f)
  have qc4 := f4.heap hC (fun f => f)
  obtain ⟨a40, a41, a42, a43⟩ := box2 qa4
  obtain ⟨b40, b41, b42, b43⟩ := box2 qb4
  obtain ⟨c40, c41, c42, c43⟩ := box2 qc4
  go_wp2_with fail
  exact post_v (set_two qc4 _ _) rfl rfl rfl ⟨rfl, fr_two (f0.same f4) (by omega) _ _⟩
set_option maxRecDepth 20000 in
set_option maxHeartbeats 2000000 in
theorem rbin_1311  (w : World) : Calls Tryz.prog 7 #[ci 13, .agg #[.int .i64 3, .int .u64 1], .agg #[.int .i64 3, .int .u64 1]] w fun r w' => r = .returned (.tuple #[vv (binF 13 (3, 1) (3, 1)).1, ci (binF 13 (3, 1) (3, 1)).2]) ∧ Fr (fun _ => False) w w' := by
  have hA : Hidden ((((w.alloc (zb (ci 3) (.int .u64 1))).alloc (zb (ci 3) (.int .u64 1))).alloc zo).heap[w.heap.size]? = some (zb (ci 3) (.int .u64 1))) := (alloc_old _ _ _ (by simp; omega)).trans ((alloc_old _ _ _ (by simp)).trans (alloc_new _ _))
  have hB : Hidden ((((w.alloc (zb (ci 3) (.int .u64 1))).alloc (zb (ci 3) (.int .u64 1))).alloc zo).heap[w.heap.size + 1]? = some (zb (ci 3) (.int .u64 1))) := (alloc_old _ _ _ (by simp)).trans (alloc_at _ _ _ (by simp))
  have hC : Hidden ((((w.alloc (zb (ci 3) (.int .u64 1))).alloc (zb (ci 3) (.int .u64 1))).alloc zo).heap[w.heap.size + 2]? = some zo) := alloc_at _ _ _ (by simp)
  have f0 : Fr (fun _ => False) w (((w.alloc (zb (ci 3) (.int .u64 1))).alloc (zb (ci 3) (.int .u64 1))).alloc zo) := ((Fr.alloc _ _ _).same (Fr.alloc _ _ _)).same (Fr.alloc _ _ _)
  have kB := fun w => same_fr (Ty.rbinary_any 13 3 3 w)
  have kRa := Ty.rrightv_any 3 1 ⟨by decide, by decide⟩
  have kRb := Ty.rrightv_any 3 1 ⟨by decide, by decide⟩
  rw [show binF 13 (3, 1) (3, 1) = ((3, 1), 0) by decide +kernel]
  rw [show Ty.binS 13 3 3 = (3, 0) from rfl] at kB
  rw [show Ty.rightV 3 1 = true from rfl] at kRa
  rw [show Ty.rightV 3 1 = true from rfl] at kRb
  have kI := rtruth_any true
  rw [show truthF true = (3, 1) from rfl] at kI
  dsimp only [vv] at kB kI ⊢
  go_enter Tryz.func7, Tryz.ntmps7
  go_wp2_with fail
  go_at_call 33
  refine (kB _).mono ?_
  rintro r w1 ⟨rfl, g1⟩
  have f1 := g1
  have qa1 := f1.heap hA (fun f => f)
  have qb1 := f1.heap hB (fun f => f)
  have qc1 := f1.heap hC (fun f => f)
  obtain ⟨a10, a11, a12, a13⟩ := box2 qa1
  obtain ⟨b10, b11, b12, b13⟩ := box2 qb1
  obtain ⟨c10, c11, c12, c13⟩ := box2 qc1
  go_wp2_with fail
  go_at_call 20
  refine (kRa _).mono ?_
  rintro r w2 ⟨rfl, g2⟩
  have f2 := f1.same g2
  have qa2 := f2.heap hA (fun f => f)
  have qb2 := f2.heap hB (fun f => f)
  have qc2 := f2.heap hC (fun f => f)
  obtain ⟨a20, a21, a22, a23⟩ := box2 qa2
  obtain ⟨b20, b21, b22, b23⟩ := box2 qb2
  obtain ⟨c20, c21, c22, c23⟩ := box2 qc2
  go_wp2_with fail
  go_at_call 20
  refine (kRb _).mono ?_
  rintro r w3 ⟨rfl, g3⟩
  have f3 := f2.same g3
  have qa3 := f3.heap hA (fun f => f)
  have qb3 := f3.heap hB (fun f => f)
  have qc3 := f3.heap hC (fun f => f)
  obtain ⟨a30, a31, a32, a33⟩ := box2 qa3
  obtain ⟨b30, b31, b32, b33⟩ := box2 qb3
  obtain ⟨c30, c31, c32, c33⟩ := box2 qc3
  go_wp2_with fail
  go_at_call 26
  refine (kI _).mono ?_
  rintro r w4 ⟨rfl, g4⟩
  have f4 := f3.same g4
  have qa4 := f4.heap hA (fun f => f)
  have qb4 := f4.heap hB (fun f => f)
  have qc4 := f4.heap hC (fun f => f)
  obtain ⟨a40, a41, a42, a43⟩ := box2 qa4
  obtain ⟨b40, b41, b42, b43⟩ := box2 qb4
  obtain ⟨c40, c41, c42, c43⟩ := box2 qc4
  go_wp2_with fail
  exact post_v (set_two qc4 _ _) rfl rfl rfl ⟨rfl, fr_two (f0.same f4) (by omega) _ _⟩
set_option maxRecDepth 20000 in
set_option maxHeartbeats 2000000 in
theorem rbin_c (op ta va tb vb : Int) (ha : U64 va) (hb : U64 vb) (he : (Ty.binS op ta tb).2 = 0) (h1 : Ty.rightV ta va = true) (h2 : Ty.rightV tb vb = true) (h6 : 6 ≤ op) (h11 : op ≤ 11) (H : Bool) (kH : ∀ w, Calls Tryz.prog 34 #[ci op, .agg #[.int .i64 ta, .int .u64 va], .agg #[.int .i64 tb, .int .u64 vb]] w fun r w' => r = .returned (.bool H) ∧ Fr (fun _ => False) w w') (hH : binF op (ta, va) (tb, vb) = (truthF H, 0)) (w : World) : Calls Tryz.prog 7 #[ci op, .agg #[.int .i64 ta, .int .u64 va], .agg #[.int .i64 tb, .int .u64 vb]] w fun r w' => r = .returned (.tuple #[vv (binF op (ta, va) (tb, vb)).1, ci (binF op (ta, va) (tb, vb)).2]) ∧ Fr (fun _ => False) w w' := by
  have hA : Hidden ((((w.alloc (zb (ci ta) (.int .u64 va))).alloc (zb (ci tb) (.int .u64 vb))).alloc zo).heap[w.heap.size]? = some (zb (ci ta) (.int .u64 va))) := (alloc_old _ _ _ (by simp; omega)).trans ((alloc_old _ _ _ (by simp)).trans (alloc_new _ _))
  have hB : Hidden ((((w.alloc (zb (ci ta) (.int .u64 va))).alloc (zb (ci tb) (.int .u64 vb))).alloc zo).heap[w.heap.size + 1]? = some (zb (ci tb) (.int .u64 vb))) := (alloc_old _ _ _ (by simp)).trans (alloc_at _ _ _ (by simp))
  have hC : Hidden ((((w.alloc (zb (ci ta) (.int .u64 va))).alloc (zb (ci tb) (.int .u64 vb))).alloc zo).heap[w.heap.size + 2]? = some zo) := alloc_at _ _ _ (by simp)
  have f0 : Fr (fun _ => False) w (((w.alloc (zb (ci ta) (.int .u64 va))).alloc (zb (ci tb) (.int .u64 vb))).alloc zo) := ((Fr.alloc _ _ _).same (Fr.alloc _ _ _)).same (Fr.alloc _ _ _)
  have kB := fun w => same_fr (Ty.rbinary_any op ta tb w)
  have kRa := Ty.rrightv_any ta va ha
  have kRb := Ty.rrightv_any tb vb hb
  rw [h1] at kRa
  rw [h2] at kRb
  rw [he] at kB
  generalize (Ty.binS op ta tb).1 = p at *
  have n12 : (op == 12) = false := by simp; omega
  have n13 : (op == 13) = false := by simp; omega
  have d6 : decide (op ≥ 6) = true := by simpa using h6
  have d6' : decide (6 ≤ op) = true := by simpa using h6
  have d11 : decide (op ≤ 11) = true := by simpa using h11
  rw [hH]
  have kI := rtruth_any H
  generalize truthF H = R at kI ⊢
  obtain ⟨t, v⟩ := R
  dsimp only [vv] at kI ⊢
  clear ha hb he h1 h2 h6 h11 hH
  go_enter Tryz.func7, Tryz.ntmps7
  go_wp2_with fail
  go_at_call 33
  refine (kB _).mono ?_
  rintro r w1 ⟨rfl, g1⟩
  have f1 := g1
  have qa1 := f1.heap hA (fun f => f)
  have qb1 := f1.heap hB (fun f => f)
  have qc1 := f1.heap hC (fun f => f)
  obtain ⟨a10, a11, a12, a13⟩ := box2 qa1
  obtain ⟨b10, b11, b12, b13⟩ := box2 qb1
  obtain ⟨c10, c11, c12, c13⟩ := box2 qc1
  go_wp2_with fail
  go_at_call 20
  refine (kRa _).mono ?_
  rintro r w2 ⟨rfl, g2⟩
  have f2 := f1.same g2
  have qa2 := f2.heap hA (fun f => f)
  have qb2 := f2.heap hB (fun f => f)
  have qc2 := f2.heap hC (fun f => f)
  obtain ⟨a20, a21, a22, a23⟩ := box2 qa2
  obtain ⟨b20, b21, b22, b23⟩ := box2 qb2
  obtain ⟨c20, c21, c22, c23⟩ := box2 qc2
  go_wp2_with fail
  go_at_call 20
  refine (kRb _).mono ?_
  rintro r w3 ⟨rfl, g3⟩
  have f3 := f2.same g3
  have qa3 := f3.heap hA (fun f => f)
  have qb3 := f3.heap hB (fun f => f)
  have qc3 := f3.heap hC (fun f => f)
  obtain ⟨a30, a31, a32, a33⟩ := box2 qa3
  obtain ⟨b30, b31, b32, b33⟩ := box2 qb3
  obtain ⟨c30, c31, c32, c33⟩ := box2 qc3
  go_wp2_with fail
  go_at_call 34
  refine (kH _).mono ?_
  rintro r w4 ⟨rfl, g4⟩
  have f4 := f3.same g4
  have qa4 := f4.heap hA (fun f => f)
  have qb4 := f4.heap hB (fun f => f)
  have qc4 := f4.heap hC (fun f => f)
  obtain ⟨a40, a41, a42, a43⟩ := box2 qa4
  obtain ⟨b40, b41, b42, b43⟩ := box2 qb4
  obtain ⟨c40, c41, c42, c43⟩ := box2 qc4
  go_wp2_with fail
  go_at_call 26
  refine (kI _).mono ?_
  rintro r w5 ⟨rfl, g5⟩
  have f5 := f4.same g5
  have qa5 := f5.heap hA (fun f => f)
  have qb5 := f5.heap hB (fun f => f)
  have qc5 := f5.heap hC (fun f => f)
  obtain ⟨a50, a51, a52, a53⟩ := box2 qa5
  obtain ⟨b50, b51, b52, b53⟩ := box2 qb5
  obtain ⟨c50, c51, c52, c53⟩ := box2 qc5
  go_wp2_with fail
  exact post_v (set_two qc5 _ _) rfl rfl rfl ⟨rfl, fr_two (f0.same f5) (by omega) _ _⟩
set_option maxRecDepth 20000 in
set_option maxHeartbeats 2000000 in
theorem rbin_f (op va tb vb : Int) (ha : U64 va) (hb : U64 vb) (he : (Ty.binS op 2 tb).2 = 0) (h1 : Ty.rightV 2 va = true) (h2 : Ty.rightV tb vb = true) (o1 : 1 ≤ op) (o4 : op ≤ 4) (w : World) : Calls Tryz.prog 7 #[ci op, .agg #[.int .i64 2, .int .u64 va], .agg #[.int .i64 tb, .int .u64 vb]] w fun r w' => r = .returned (.tuple #[vv (binF op (2, va) (tb, vb)).1, ci (binF op (2, va) (tb, vb)).2]) ∧ Fr (fun _ => False) w w' := by
  have hA : Hidden ((((w.alloc (zb (ci 2) (.int .u64 va))).alloc (zb (ci tb) (.int .u64 vb))).alloc zo).heap[w.heap.size]? = some (zb (ci 2) (.int .u64 va))) := (alloc_old _ _ _ (by simp; omega)).trans ((alloc_old _ _ _ (by simp)).trans (alloc_new _ _))
  have hB : Hidden ((((w.alloc (zb (ci 2) (.int .u64 va))).alloc (zb (ci tb) (.int .u64 vb))).alloc zo).heap[w.heap.size + 1]? = some (zb (ci tb) (.int .u64 vb))) := (alloc_old _ _ _ (by simp)).trans (alloc_at _ _ _ (by simp))
  have hC : Hidden ((((w.alloc (zb (ci 2) (.int .u64 va))).alloc (zb (ci tb) (.int .u64 vb))).alloc zo).heap[w.heap.size + 2]? = some zo) := alloc_at _ _ _ (by simp)
  have f0 : Fr (fun _ => False) w (((w.alloc (zb (ci 2) (.int .u64 va))).alloc (zb (ci tb) (.int .u64 vb))).alloc zo) := ((Fr.alloc _ _ _).same (Fr.alloc _ _ _)).same (Fr.alloc _ _ _)
  have kB := fun w => same_fr (Ty.rbinary_any op 2 tb w)
  have kRa := Ty.rrightv_any 2 va ha
  have kRb := Ty.rrightv_any tb vb hb
  rw [h1] at kRa
  rw [h2] at kRb
  rw [he] at kB
  generalize (Ty.binS op 2 tb).1 = p at *
  have n12 : (op == 12) = false := by simp; omega
  have n13 : (op == 13) = false := by simp; omega
  have d6 : decide (op ≥ 6) = false := by simp; omega
  have d6' : decide (6 ≤ op) = false := by simp; omega
  rw [binF_yes (a := (2, va)) (b := (tb, vb)) he h1 h2, if_neg (show ¬ (2 : Int) = 1 by decide), if_pos rfl]
  have kF := rfloats_any op va vb o1 o4
  have e2 : fltsF op va vb = (2, (fltsF op va vb).2) := by
    rcases (show op = 1 ∨ op = 2 ∨ op = 3 ∨ op = 4 by omega) with e | e | e | e <;> subst e <;> rfl
  rw [show (fltsF op ((2, va) : Vl).2 ((tb, vb) : Vl).2) = fltsF op va vb from rfl, e2]
  generalize (fltsF op va vb).2 = R at kF ⊢
  have kI := rfloat_any R
  dsimp only [vv] at kI ⊢
  clear ha hb he h1 h2 e2 o1 o4
  go_enter Tryz.func7, Tryz.ntmps7
  go_wp2_with fail
  go_at_call 33
  refine (kB _).mono ?_
  rintro r w1 ⟨rfl, g1⟩
  have f1 := g1
  have qa1 := f1.heap hA (fun f => f)
  have qb1 := f1.heap hB (fun f => f)
  have qc1 := f1.heap hC (fun f => f)
  obtain ⟨a10, a11, a12, a13⟩ := box2 qa1
  obtain ⟨b10, b11, b12, b13⟩ := box2 qb1
  obtain ⟨c10, c11, c12, c13⟩ := box2 qc1
  go_wp2_with fail
  go_at_call 20
  refine (kRa _).mono ?_
  rintro r w2 ⟨rfl, g2⟩
  have f2 := f1.same g2
  have qa2 := f2.heap hA (fun f => f)
  have qb2 := f2.heap hB (fun f => f)
  have qc2 := f2.heap hC (fun f => f)
  obtain ⟨a20, a21, a22, a23⟩ := box2 qa2
  obtain ⟨b20, b21, b22, b23⟩ := box2 qb2
  obtain ⟨c20, c21, c22, c23⟩ := box2 qc2
  go_wp2_with fail
  go_at_call 20
  refine (kRb _).mono ?_
  rintro r w3 ⟨rfl, g3⟩
  have f3 := f2.same g3
  have qa3 := f3.heap hA (fun f => f)
  have qb3 := f3.heap hB (fun f => f)
  have qc3 := f3.heap hC (fun f => f)
  obtain ⟨a30, a31, a32, a33⟩ := box2 qa3
  obtain ⟨b30, b31, b32, b33⟩ := box2 qb3
  obtain ⟨c30, c31, c32, c33⟩ := box2 qc3
  go_wp2_with fail
  go_at_call 35
  refine (kF _).mono ?_
  rintro r w4 ⟨rfl, g4⟩
  have f4 := f3.same g4
  have qa4 := f4.heap hA (fun f => f)
  have qb4 := f4.heap hB (fun f => f)
  have qc4 := f4.heap hC (fun f => f)
  obtain ⟨a40, a41, a42, a43⟩ := box2 qa4
  obtain ⟨b40, b41, b42, b43⟩ := box2 qb4
  obtain ⟨c40, c41, c42, c43⟩ := box2 qc4
  go_wp2_with fail
  go_at_call 24
  refine (kI _).mono ?_
  rintro r w5 ⟨rfl, g5⟩
  have f5 := f4.same g5
  have qa5 := f5.heap hA (fun f => f)
  have qb5 := f5.heap hB (fun f => f)
  have qc5 := f5.heap hC (fun f => f)
  obtain ⟨a50, a51, a52, a53⟩ := box2 qa5
  obtain ⟨b50, b51, b52, b53⟩ := box2 qb5
  obtain ⟨c50, c51, c52, c53⟩ := box2 qc5
  go_wp2_with fail
  exact post_v (set_two qc5 _ _) rfl rfl rfl ⟨rfl, fr_two (f0.same f5) (by omega) _ _⟩
set_option maxRecDepth 20000 in
set_option maxHeartbeats 2000000 in
theorem rbin_i (op va tb vb : Int) (ha : U64 va) (hb : U64 vb) (he : (Ty.binS op 1 tb).2 = 0) (h1 : Ty.rightV 1 va = true) (h2 : Ty.rightV tb vb = true) (o1 : 1 ≤ op) (o5 : op ≤ 5) (w : World) : Calls Tryz.prog 7 #[ci op, .agg #[.int .i64 1, .int .u64 va], .agg #[.int .i64 tb, .int .u64 vb]] w fun r w' => r = .returned (.tuple #[vv (binF op (1, va) (tb, vb)).1, ci (binF op (1, va) (tb, vb)).2]) ∧ Fr (fun _ => False) w w' := by
  have hA : Hidden ((((w.alloc (zb (ci 1) (.int .u64 va))).alloc (zb (ci tb) (.int .u64 vb))).alloc zo).heap[w.heap.size]? = some (zb (ci 1) (.int .u64 va))) := (alloc_old _ _ _ (by simp; omega)).trans ((alloc_old _ _ _ (by simp)).trans (alloc_new _ _))
  have hB : Hidden ((((w.alloc (zb (ci 1) (.int .u64 va))).alloc (zb (ci tb) (.int .u64 vb))).alloc zo).heap[w.heap.size + 1]? = some (zb (ci tb) (.int .u64 vb))) := (alloc_old _ _ _ (by simp)).trans (alloc_at _ _ _ (by simp))
  have hC : Hidden ((((w.alloc (zb (ci 1) (.int .u64 va))).alloc (zb (ci tb) (.int .u64 vb))).alloc zo).heap[w.heap.size + 2]? = some zo) := alloc_at _ _ _ (by simp)
  have f0 : Fr (fun _ => False) w (((w.alloc (zb (ci 1) (.int .u64 va))).alloc (zb (ci tb) (.int .u64 vb))).alloc zo) := ((Fr.alloc _ _ _).same (Fr.alloc _ _ _)).same (Fr.alloc _ _ _)
  have kB := fun w => same_fr (Ty.rbinary_any op 1 tb w)
  have kRa := Ty.rrightv_any 1 va ha
  have kRb := Ty.rrightv_any tb vb hb
  rw [h1] at kRa
  rw [h2] at kRb
  rw [he] at kB
  generalize (Ty.binS op 1 tb).1 = p at *
  have n12 : (op == 12) = false := by simp; omega
  have n13 : (op == 13) = false := by simp; omega
  have d6 : decide (op ≥ 6) = false := by simp; omega
  have d6' : decide (6 ≤ op) = false := by simp; omega
  rw [binF_yes (a := (1, va)) (b := (tb, vb)) he h1 h2, if_pos rfl]
  have kI := rints_any op (wrap64 va) (wrap64 vb) (wrapI _) (wrapI _) o1 o5
  dsimp only
  generalize intsF op (wrap64 va) (wrap64 vb) = R at kI ⊢
  obtain ⟨⟨t, v⟩, q⟩ := R
  dsimp only [vv] at kI ⊢
  clear ha hb he h1 h2 o1 o5
  go_enter Tryz.func7, Tryz.ntmps7
  go_wp2_with fail
  go_at_call 33
  refine (kB _).mono ?_
  rintro r w1 ⟨rfl, g1⟩
  have f1 := g1
  have qa1 := f1.heap hA (fun f => f)
  have qb1 := f1.heap hB (fun f => f)
  have qc1 := f1.heap hC (fun f => f)
  obtain ⟨a10, a11, a12, a13⟩ := box2 qa1
  obtain ⟨b10, b11, b12, b13⟩ := box2 qb1
  obtain ⟨c10, c11, c12, c13⟩ := box2 qc1
  go_wp2_with fail
  go_at_call 20
  refine (kRa _).mono ?_
  rintro r w2 ⟨rfl, g2⟩
  have f2 := f1.same g2
  have qa2 := f2.heap hA (fun f => f)
  have qb2 := f2.heap hB (fun f => f)
  have qc2 := f2.heap hC (fun f => f)
  obtain ⟨a20, a21, a22, a23⟩ := box2 qa2
  obtain ⟨b20, b21, b22, b23⟩ := box2 qb2
  obtain ⟨c20, c21, c22, c23⟩ := box2 qc2
  go_wp2_with fail
  go_at_call 20
  refine (kRb _).mono ?_
  rintro r w3 ⟨rfl, g3⟩
  have f3 := f2.same g3
  have qa3 := f3.heap hA (fun f => f)
  have qb3 := f3.heap hB (fun f => f)
  have qc3 := f3.heap hC (fun f => f)
  obtain ⟨a30, a31, a32, a33⟩ := box2 qa3
  obtain ⟨b30, b31, b32, b33⟩ := box2 qb3
  obtain ⟨c30, c31, c32, c33⟩ := box2 qc3
  go_wp2_with fail
  go_at_call 36
  refine (kI _).mono ?_
  rintro r w4 ⟨rfl, g4⟩
  have f4 := f3.same g4
  have qa4 := f4.heap hA (fun f => f)
  have qb4 := f4.heap hB (fun f => f)
  have qc4 := f4.heap hC (fun f => f)
  obtain ⟨a40, a41, a42, a43⟩ := box2 qa4
  obtain ⟨b40, b41, b42, b43⟩ := box2 qb4
  obtain ⟨c40, c41, c42, c43⟩ := box2 qc4
  go_wp2_with fail
  exact post_v (set_two qc4 _ _) rfl rfl rfl ⟨rfl, fr_two (f0.same f4) (by omega) _ _⟩
theorem bin_tb {op ta tb : Int} (h : (Ty.binS op ta tb).2 = 0) : ta = tb := by
  unfold Ty.binS at h
  by_cases h0 : op < 1 ∨ 13 < op
  · rw [if_pos h0] at h; cases h
  rw [if_neg h0] at h
  by_cases h1 : ta ≠ tb
  · rw [if_pos h1] at h; cases h
  · exact Decidable.not_not.1 h1
theorem right3 {v : Int} (hv : U64 v) (h : Ty.rightV 3 v = true) : v = 0 ∨ v = 1 := by
  have h' : v ≤ 1 := by simpa [Ty.rightV] using h
  obtain ⟨h0, _⟩ := (show Ty.U64 v from hv)
  omega
theorem rbin_any (op : Int) (a b : Vl) (ha : U64 a.2) (hb : U64 b.2) (w : World) : Calls Tryz.prog 7 #[ci op, vv a, vv b] w fun r w' => r = .returned (.tuple #[vv (binF op a b).1, ci (binF op a b).2]) ∧ Fr (fun _ => False) w w' := by
  obtain ⟨ta, va⟩ := a
  obtain ⟨tb, vb⟩ := b
  have ha' : U64 va := ha
  have hb' : U64 vb := hb
  by_cases he : (Ty.binS op ta tb).2 ≠ 0
  · exact rbin_e op ta va tb vb ha' hb' he w
  replace he := Decidable.not_not.1 he
  cases h1 : Ty.rightV ta va
  · exact rbin_a op ta va tb vb ha' hb' he h1 w
  cases h2 : Ty.rightV tb vb
  · exact rbin_b op ta va tb vb ha' hb' he h1 h2 w
  have hab := bin_tb he
  subst hab
  rcases bin_cases he with ⟨rfl, o1, o11⟩ | ⟨rfl, o⟩ | ⟨rfl, o⟩
  · by_cases o5 : op ≤ 5
    · exact rbin_i op va 1 vb ha' hb' he h1 h2 o1 o5 w
    · refine rbin_c op 1 va 1 vb ha' hb' he h1 h2 (by omega) o11 _ (holds_n op 1 va vb 1 (by decide)) ?_ w
      rw [binF_yes (a := (1, va)) (b := (1, vb)) he h1 h2, if_pos rfl, ← ho_i op va vb ha' hb']
      unfold intsF
      rw [if_neg (by omega), if_neg (by omega), if_neg (by omega), if_neg (by omega), if_neg (by omega)]
  · by_cases o4 : op ≤ 4
    · exact rbin_f op va 2 vb ha' hb' he h1 h2 (by omega) o4 w
    · refine rbin_c op 2 va 2 vb ha' hb' he h1 h2 (by omega) (by omega) _ (holds_2 op va vb 2 ha' hb') ?_ w
      rw [binF_yes (a := (2, va)) (b := (2, vb)) he h1 h2, if_neg (show ¬ (2 : Int) = 1 by decide), if_pos rfl, ← ho_f]
      unfold fltsF
      rw [if_neg (by omega), if_neg (by omega), if_neg (by omega), if_neg (by omega)]
  · rcases (show op = 12 ∨ op = 13 ∨ (op = 6 ∨ op = 7) by omega) with rfl | rfl | o6
    · rcases right3 ha' h1 with rfl | rfl <;> rcases right3 hb' h2 with rfl | rfl
      · exact rbin_1200 w
      · exact rbin_1201 w
      · exact rbin_1210 w
      · exact rbin_1211 w
    · rcases right3 ha' h1 with rfl | rfl <;> rcases right3 hb' h2 with rfl | rfl
      · exact rbin_1300 w
      · exact rbin_1301 w
      · exact rbin_1310 w
      · exact rbin_1311 w
    · refine rbin_c op 3 va 3 vb ha' hb' he h1 h2 (by omega) (by omega) _ (holds_n op 3 va vb 3 (by decide)) ?_ w
      have l1 : va ≤ 1 := by rcases right3 ha' h1 with h | h <;> omega
      have l2 : vb ≤ 1 := by rcases right3 hb' h2 with h | h <;> omega
      rw [binF_yes (a := (3, va)) (b := (3, vb)) he h1 h2, if_neg (show ¬ (3 : Int) = 1 by decide), if_neg (show ¬ (3 : Int) = 2 by decide), ← ho_b op va vb ha' hb' l1 l2 o6]
set_option maxRecDepth 20000 in
set_option maxHeartbeats 4000000 in
theorem run_any (op : Int) (a : Vl) (ha : U64 a.2) (w : World) : Calls Tryz.prog 5 #[ci op, vv a] w fun r w' => r = .returned (.tuple #[vv (unF op a).1, ci (unF op a).2]) ∧ Fr (fun _ => False) w w' := by
  obtain ⟨ta, va⟩ := a
  dsimp only [vv] at ha ⊢
  have hA : Hidden (((w.alloc (zb (ci ta) (.int .u64 va))).alloc zo).heap[w.heap.size]? = some (zb (ci ta) (.int .u64 va))) := (alloc_old _ _ _ (by simp)).trans (alloc_new _ _)
  have hC : Hidden (((w.alloc (zb (ci ta) (.int .u64 va))).alloc zo).heap[w.heap.size + 1]? = some zo) := alloc_at _ _ _ (by simp)
  have f0 : Fr (fun _ => False) w ((w.alloc (zb (ci ta) (.int .u64 va))).alloc zo) := (Fr.alloc _ _ _).same (Fr.alloc _ _ _)
  have kB := fun w => same_fr (Ty.runary_any op ta w)
  have kRa := Ty.rrightv_any ta va ha
  have no := @unF_no op (ta, va)
  have yes := @unF_yes op (ta, va)
  have hcase := @un_cases op ta
  dsimp only at no yes
  generalize unF op (ta, va) = R0 at *
  generalize Ty.unS op ta = P at *
  obtain ⟨p, e⟩ := P
  dsimp only at kB no yes hcase
  generalize Ty.rightV ta va = A at *
  by_cases he : e = 0
  · subst he
    cases A
    · rw [no (by simp)]
      clear ha no yes hcase
      go_enter Tryz.func5, Tryz.ntmps5
      go_wp2_with fail
      go_at_call 19
      refine (kB _).mono ?_
      rintro r w1 ⟨rfl, g1⟩
      have f1 := g1
      have qa1 := f1.heap hA (fun f => f)
      have qc1 := f1.heap hC (fun f => f)
      obtain ⟨a10, a11, a12, a13⟩ := box2 qa1
      obtain ⟨c10, c11, c12, c13⟩ := box2 qc1
      go_wp2_with fail
      go_at_call 20
      refine (kRa _).mono ?_
      rintro r w2 ⟨rfl, g2⟩
      have f2 := f1.same g2
      have qa2 := f2.heap hA (fun f => f)
      have qc2 := f2.heap hC (fun f => f)
      obtain ⟨a20, a21, a22, a23⟩ := box2 qa2
      obtain ⟨c20, c21, c22, c23⟩ := box2 qc2
      go_wp2_with fail
      exact post_v (set_two qc2 _ _) rfl rfl rfl ⟨rfl, fr_two (f0.same f2) (by omega) _ _⟩
    rw [yes rfl rfl]
    have hcs := hcase rfl
    clear no yes hcase
    rcases hcs with ⟨rfl, rfl | rfl⟩ | ⟨rfl, rfl⟩ | ⟨rfl, rfl⟩ | ⟨rfl, rfl⟩
    · rw [if_pos rfl, if_neg (by decide)]
      have k1 := Z.rneg_any (wrap64 va) (wrapI _)
      generalize (Z.fitV (-(wrap64 va))) = V at k1 ⊢
      generalize (Z.fitE (-(wrap64 va))) = E at k1 ⊢
      have k2 := rwhole_any V
      have k3 := kept_any V E
      generalize wholeF V E = R at k3 ⊢
      generalize IntKind.u64.wrap V = X at k2 k3
      obtain ⟨⟨t, v⟩, q⟩ := R
      dsimp only [vv] at k3 ⊢
      clear ha
      go_enter Tryz.func5, Tryz.ntmps5
      go_wp2_with fail
      go_at_call 19
      refine (kB _).mono ?_
      rintro r w1 ⟨rfl, g1⟩
      have f1 := g1
      have qa1 := f1.heap hA (fun f => f)
      have qc1 := f1.heap hC (fun f => f)
      obtain ⟨a10, a11, a12, a13⟩ := box2 qa1
      obtain ⟨c10, c11, c12, c13⟩ := box2 qc1
      go_wp2_with fail
      go_at_call 20
      refine (kRa _).mono ?_
      rintro r w2 ⟨rfl, g2⟩
      have f2 := f1.same g2
      have qa2 := f2.heap hA (fun f => f)
      have qc2 := f2.heap hC (fun f => f)
      obtain ⟨a20, a21, a22, a23⟩ := box2 qa2
      obtain ⟨c20, c21, c22, c23⟩ := box2 qc2
      go_wp2_with fail
      go_at_call 21
      refine (k1 _).mono ?_
      rintro r w3 ⟨rfl, hw3⟩
      rw [← hw3]
      clear hw3
      go_wp2_with fail
      go_at_call 23
      refine (k2 _).mono ?_
      rintro r w4 ⟨rfl, g4⟩
      have f4 := f2.same g4
      have qa4 := f4.heap hA (fun f => f)
      have qc4 := f4.heap hC (fun f => f)
      obtain ⟨a40, a41, a42, a43⟩ := box2 qa4
      obtain ⟨c40, c41, c42, c43⟩ := box2 qc4
      go_wp2_with fail
      go_at_call 22
      refine (k3 _).mono ?_
      rintro r w5 ⟨rfl, g5⟩
      have f5 := f4.same g5
      have qa5 := f5.heap hA (fun f => f)
      have qc5 := f5.heap hC (fun f => f)
      obtain ⟨a50, a51, a52, a53⟩ := box2 qa5
      obtain ⟨c50, c51, c52, c53⟩ := box2 qc5
      go_wp2_with fail
      exact post_v (set_two qc5 _ _) rfl rfl rfl ⟨rfl, fr_two (f0.same f5) (by omega) _ _⟩
    · rw [if_pos rfl, if_pos rfl]
      have k1 := F.rneg_any va ⟨ha.1, ha.2⟩
      have k2 := rfloat_any (F.Fl.negS va)
      generalize F.Fl.negS va = R at k1 k2 ⊢
      dsimp only [vv] at k2 ⊢
      clear ha
      go_enter Tryz.func5, Tryz.ntmps5
      go_wp2_with fail
      go_at_call 19
      refine (kB _).mono ?_
      rintro r w1 ⟨rfl, g1⟩
      have f1 := g1
      have qa1 := f1.heap hA (fun f => f)
      have qc1 := f1.heap hC (fun f => f)
      obtain ⟨a10, a11, a12, a13⟩ := box2 qa1
      obtain ⟨c10, c11, c12, c13⟩ := box2 qc1
      go_wp2_with fail
      go_at_call 20
      refine (kRa _).mono ?_
      rintro r w2 ⟨rfl, g2⟩
      have f2 := f1.same g2
      have qa2 := f2.heap hA (fun f => f)
      have qc2 := f2.heap hC (fun f => f)
      obtain ⟨a20, a21, a22, a23⟩ := box2 qa2
      obtain ⟨c20, c21, c22, c23⟩ := box2 qc2
      go_wp2_with fail
      go_at_call 25
      refine (k1 _).mono ?_
      rintro r w3 ⟨rfl, hw3⟩
      rw [← hw3]
      clear hw3
      go_wp2_with fail
      go_at_call 24
      refine (k2 _).mono ?_
      rintro r w4 ⟨rfl, g4⟩
      have f4 := f2.same g4
      have qa4 := f4.heap hA (fun f => f)
      have qc4 := f4.heap hC (fun f => f)
      obtain ⟨a40, a41, a42, a43⟩ := box2 qa4
      obtain ⟨c40, c41, c42, c43⟩ := box2 qc4
      go_wp2_with fail
      exact post_v (set_two qc4 _ _) rfl rfl rfl ⟨rfl, fr_two (f0.same f4) (by omega) _ _⟩
    · rw [if_neg (by decide), if_pos rfl]
      have kI := rtruth_any (va == 0)
      generalize truthF (va == 0) = R at kI ⊢
      obtain ⟨t, v⟩ := R
      dsimp only [vv] at kI ⊢
      clear ha
      go_enter Tryz.func5, Tryz.ntmps5
      go_wp2_with fail
      go_at_call 19
      refine (kB _).mono ?_
      rintro r w1 ⟨rfl, g1⟩
      have f1 := g1
      have qa1 := f1.heap hA (fun f => f)
      have qc1 := f1.heap hC (fun f => f)
      obtain ⟨a10, a11, a12, a13⟩ := box2 qa1
      obtain ⟨c10, c11, c12, c13⟩ := box2 qc1
      go_wp2_with fail
      go_at_call 20
      refine (kRa _).mono ?_
      rintro r w2 ⟨rfl, g2⟩
      have f2 := f1.same g2
      have qa2 := f2.heap hA (fun f => f)
      have qc2 := f2.heap hC (fun f => f)
      obtain ⟨a20, a21, a22, a23⟩ := box2 qa2
      obtain ⟨c20, c21, c22, c23⟩ := box2 qc2
      go_wp2_with fail
      go_at_call 26
      refine (kI _).mono ?_
      rintro r w3 ⟨rfl, g3⟩
      have f3 := f2.same g3
      have qa3 := f3.heap hA (fun f => f)
      have qc3 := f3.heap hC (fun f => f)
      obtain ⟨a30, a31, a32, a33⟩ := box2 qa3
      obtain ⟨c30, c31, c32, c33⟩ := box2 qc3
      go_wp2_with fail
      exact post_v (set_two qc3 _ _) rfl rfl rfl ⟨rfl, fr_two (f0.same f3) (by omega) _ _⟩
    · rw [if_neg (by decide), if_neg (by decide), if_pos rfl]
      have k1 := F.rtoInt_any va ⟨ha.1, ha.2⟩
      generalize F.toI va = V at k1 ⊢
      generalize F.toE va = E at k1 ⊢
      have k2 := rwhole_any V
      have k3 := kept_any V E
      generalize wholeF V E = R at k3 ⊢
      generalize IntKind.u64.wrap V = X at k2 k3
      obtain ⟨⟨t, v⟩, q⟩ := R
      dsimp only [vv] at k3 ⊢
      clear ha
      go_enter Tryz.func5, Tryz.ntmps5
      go_wp2_with fail
      go_at_call 19
      refine (kB _).mono ?_
      rintro r w1 ⟨rfl, g1⟩
      have f1 := g1
      have qa1 := f1.heap hA (fun f => f)
      have qc1 := f1.heap hC (fun f => f)
      obtain ⟨a10, a11, a12, a13⟩ := box2 qa1
      obtain ⟨c10, c11, c12, c13⟩ := box2 qc1
      go_wp2_with fail
      go_at_call 20
      refine (kRa _).mono ?_
      rintro r w2 ⟨rfl, g2⟩
      have f2 := f1.same g2
      have qa2 := f2.heap hA (fun f => f)
      have qc2 := f2.heap hC (fun f => f)
      obtain ⟨a20, a21, a22, a23⟩ := box2 qa2
      obtain ⟨c20, c21, c22, c23⟩ := box2 qc2
      go_wp2_with fail
      go_at_call 27
      refine (k1 _).mono ?_
      rintro r w3 ⟨rfl, hw3⟩
      rw [← hw3]
      clear hw3
      go_wp2_with fail
      go_at_call 23
      refine (k2 _).mono ?_
      rintro r w4 ⟨rfl, g4⟩
      have f4 := f2.same g4
      have qa4 := f4.heap hA (fun f => f)
      have qc4 := f4.heap hC (fun f => f)
      obtain ⟨a40, a41, a42, a43⟩ := box2 qa4
      obtain ⟨c40, c41, c42, c43⟩ := box2 qc4
      go_wp2_with fail
      go_at_call 22
      refine (k3 _).mono ?_
      rintro r w5 ⟨rfl, g5⟩
      have f5 := f4.same g5
      have qa5 := f5.heap hA (fun f => f)
      have qc5 := f5.heap hC (fun f => f)
      obtain ⟨a50, a51, a52, a53⟩ := box2 qa5
      obtain ⟨c50, c51, c52, c53⟩ := box2 qc5
      go_wp2_with fail
      exact post_v (set_two qc5 _ _) rfl rfl rfl ⟨rfl, fr_two (f0.same f5) (by omega) _ _⟩
    · rw [if_neg (by decide), if_neg (by decide), if_neg (by decide)]
      have k1 := F.rfromInt_any (wrap64 va)
      have k2 := rfloat_any ((floatOfInt .f64 (wrap64 va) : Nat) : Int)
      generalize ((floatOfInt .f64 (wrap64 va) : Nat) : Int) = R at k1 k2 ⊢
      dsimp only [vv] at k2 ⊢
      clear ha
      go_enter Tryz.func5, Tryz.ntmps5
      go_wp2_with fail
      go_at_call 19
      refine (kB _).mono ?_
      rintro r w1 ⟨rfl, g1⟩
      have f1 := g1
      have qa1 := f1.heap hA (fun f => f)
      have qc1 := f1.heap hC (fun f => f)
      obtain ⟨a10, a11, a12, a13⟩ := box2 qa1
      obtain ⟨c10, c11, c12, c13⟩ := box2 qc1
      go_wp2_with fail
      go_at_call 20
      refine (kRa _).mono ?_
      rintro r w2 ⟨rfl, g2⟩
      have f2 := f1.same g2
      have qa2 := f2.heap hA (fun f => f)
      have qc2 := f2.heap hC (fun f => f)
      obtain ⟨a20, a21, a22, a23⟩ := box2 qa2
      obtain ⟨c20, c21, c22, c23⟩ := box2 qc2
      go_wp2_with fail
      go_at_call 28
      refine (k1 _).mono ?_
      rintro r w3 ⟨rfl, hw3⟩
      rw [← hw3]
      clear hw3
      go_wp2_with fail
      go_at_call 24
      refine (k2 _).mono ?_
      rintro r w4 ⟨rfl, g4⟩
      have f4 := f2.same g4
      have qa4 := f4.heap hA (fun f => f)
      have qc4 := f4.heap hC (fun f => f)
      obtain ⟨a40, a41, a42, a43⟩ := box2 qa4
      obtain ⟨c40, c41, c42, c43⟩ := box2 qc4
      go_wp2_with fail
      exact post_v (set_two qc4 _ _) rfl rfl rfl ⟨rfl, fr_two (f0.same f4) (by omega) _ _⟩
  · rw [no (Or.inl he)]
    have he' : (e != 0) = true := by simp [he]
    clear ha he no yes hcase
    go_enter Tryz.func5, Tryz.ntmps5
    go_wp2_with fail
    go_at_call 19
    refine (kB _).mono ?_
    rintro r w1 ⟨rfl, g1⟩
    have f1 := g1
    have qa1 := f1.heap hA (fun f => f)
    have qc1 := f1.heap hC (fun f => f)
    obtain ⟨a10, a11, a12, a13⟩ := box2 qa1
    obtain ⟨c10, c11, c12, c13⟩ := box2 qc1
    go_wp2_with fail
    exact post_v (set_two qc1 _ _) rfl rfl rfl ⟨rfl, fr_two (f0.same f1) (by omega) _ _⟩
end Go.Proofs.YtmkfbppjbojdmaaGreat.Fo
