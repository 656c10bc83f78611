/- Bin and Un of the program. -/
import Derived.Test.YtpjahcncknccdaaGreatFoB
namespace Go.Proofs.YtpjahcncknccdaaGreat.Fo
open Go.RowKit
set_option linter.unusedSimpArgs false
set_option linter.unusedVariables false

set_option maxRecDepth 20000 in
set_option maxHeartbeats 2000000 in
theorem bin_any (op : Int) (a b : Vl) (ha : U64 a.2) (hb : U64 b.2) (w : World) : Calls Tryz.prog 159 #[ci op, vv a, vv b] w fun r w' => r = .returned (.tuple #[vv (binF op a b).1, ci (binF op a b).2]) ∧ Fr (fun _ => False) w w' := by
  obtain ⟨ta, va⟩ := a
  obtain ⟨tb, vb⟩ := b
  dsimp only [vv] at ha hb ⊢
  have hA : Hidden ((((w.alloc (zb (ci ta) (.int .u64 va))).alloc (zb (ci tb) (.int .u64 vb))).alloc zo).heap[w.heap.size]? = some (zb (ci ta) (.int .u64 va))) := (alloc_old _ _ _ (by simp; omega)).trans ((alloc_old _ _ _ (by simp)).trans (alloc_new _ _))
  have hB : Hidden ((((w.alloc (zb (ci ta) (.int .u64 va))).alloc (zb (ci tb) (.int .u64 vb))).alloc zo).heap[w.heap.size + 1]? = some (zb (ci tb) (.int .u64 vb))) := (alloc_old _ _ _ (by simp)).trans (alloc_at _ _ _ (by simp))
  have hC : Hidden ((((w.alloc (zb (ci ta) (.int .u64 va))).alloc (zb (ci tb) (.int .u64 vb))).alloc zo).heap[w.heap.size + 2]? = some zo) := alloc_at _ _ _ (by simp)
  have f0 : Fr (fun _ => False) w (((w.alloc (zb (ci ta) (.int .u64 va))).alloc (zb (ci tb) (.int .u64 vb))).alloc zo) := ((Fr.alloc _ _ _).same (Fr.alloc _ _ _)).same (Fr.alloc _ _ _)
  have kB := Ty.binary_any op ta tb
  have kRa := Ty.rightv_any ta va ha
  have kRb := Ty.rightv_any tb vb hb
  have no := @binF_no op (ta, va) (tb, vb)
  have yes := @binF_yes op (ta, va) (tb, vb)
  dsimp only at no yes
  generalize binF op (ta, va) (tb, vb) = R0 at *
  generalize Ty.binS op ta tb = P at *
  obtain ⟨p, e⟩ := P
  dsimp only at kB no yes
  generalize Ty.rightV ta va = A at *
  generalize Ty.rightV tb vb = B at *
  by_cases he : e = 0
  · subst he
    cases A
    · rw [no (by simp)]
      clear no yes
      clear ha hb
      go_enter Tryz.func159, Tryz.ntmps159
      go_wp2_with fail
      go_at_call 171
      refine (kB _).mono ?_
      rintro r w1 ⟨rfl, g1⟩
      have f1 := g1
      have qa1 := f1.heap hA (fun f => f)
      have qb1 := f1.heap hB (fun f => f)
      have qc1 := f1.heap hC (fun f => f)
      obtain ⟨a10, a11, a12, a13⟩ := box2 qa1
      obtain ⟨b10, b11, b12, b13⟩ := box2 qb1
      obtain ⟨c10, c11, c12, c13⟩ := box2 qc1
      go_wp2_with fail
      go_at_call 73
      refine (kRa _).mono ?_
      rintro r w2 ⟨rfl, g2⟩
      have f2 := f1.same g2
      have qa2 := f2.heap hA (fun f => f)
      have qb2 := f2.heap hB (fun f => f)
      have qc2 := f2.heap hC (fun f => f)
      obtain ⟨a20, a21, a22, a23⟩ := box2 qa2
      obtain ⟨b20, b21, b22, b23⟩ := box2 qb2
      obtain ⟨c20, c21, c22, c23⟩ := box2 qc2
      go_wp2_with fail
      exact post_v (set_two qc2 _ _) rfl rfl rfl ⟨rfl, fr_two (f0.same f2) (by omega) _ _⟩
    cases B
    · rw [no (by simp)]
      clear no yes
      clear ha hb
      go_enter Tryz.func159, Tryz.ntmps159
      go_wp2_with fail
      go_at_call 171
      refine (kB _).mono ?_
      rintro r w1 ⟨rfl, g1⟩
      have f1 := g1
      have qa1 := f1.heap hA (fun f => f)
      have qb1 := f1.heap hB (fun f => f)
      have qc1 := f1.heap hC (fun f => f)
      obtain ⟨a10, a11, a12, a13⟩ := box2 qa1
      obtain ⟨b10, b11, b12, b13⟩ := box2 qb1
      obtain ⟨c10, c11, c12, c13⟩ := box2 qc1
      go_wp2_with fail
      go_at_call 73
      refine (kRa _).mono ?_
      rintro r w2 ⟨rfl, g2⟩
      have f2 := f1.same g2
      have qa2 := f2.heap hA (fun f => f)
      have qb2 := f2.heap hB (fun f => f)
      have qc2 := f2.heap hC (fun f => f)
      obtain ⟨a20, a21, a22, a23⟩ := box2 qa2
      obtain ⟨b20, b21, b22, b23⟩ := box2 qb2
      obtain ⟨c20, c21, c22, c23⟩ := box2 qc2
      go_wp2_with fail
      go_at_call 73
      refine (kRb _).mono ?_
      rintro r w3 ⟨rfl, g3⟩
      have f3 := f2.same g3
      have qa3 := f3.heap hA (fun f => f)
      have qb3 := f3.heap hB (fun f => f)
      have qc3 := f3.heap hC (fun f => f)
      obtain ⟨a30, a31, a32, a33⟩ := box2 qa3
      obtain ⟨b30, b31, b32, b33⟩ := box2 qb3
      obtain ⟨c30, c31, c32, c33⟩ := box2 qc3
      go_wp2_with fail
      exact post_v (set_two qc3 _ _) rfl rfl rfl ⟨rfl, fr_two (f0.same f3) (by omega) _ _⟩
    rw [yes rfl rfl rfl]
    clear no yes
    by_cases h1 : ta = 1
    · subst h1
      rw [if_pos rfl]
      have kI := ofInts_any op (wrap64 va) (wrap64 vb) (wrapI _) (wrapI _)
      generalize intsF op (wrap64 va) (wrap64 vb) = R at kI ⊢
      obtain ⟨⟨t, v⟩, q⟩ := R
      dsimp only [vv] at kI ⊢
      clear ha hb
      go_enter Tryz.func159, Tryz.ntmps159
      go_wp2_with fail
      go_at_call 171
      refine (kB _).mono ?_
      rintro r w1 ⟨rfl, g1⟩
      have f1 := g1
      have qa1 := f1.heap hA (fun f => f)
      have qb1 := f1.heap hB (fun f => f)
      have qc1 := f1.heap hC (fun f => f)
      obtain ⟨a10, a11, a12, a13⟩ := box2 qa1
      obtain ⟨b10, b11, b12, b13⟩ := box2 qb1
      obtain ⟨c10, c11, c12, c13⟩ := box2 qc1
      go_wp2_with fail
      go_at_call 73
      refine (kRa _).mono ?_
      rintro r w2 ⟨rfl, g2⟩
      have f2 := f1.same g2
      have qa2 := f2.heap hA (fun f => f)
      have qb2 := f2.heap hB (fun f => f)
      have qc2 := f2.heap hC (fun f => f)
      obtain ⟨a20, a21, a22, a23⟩ := box2 qa2
      obtain ⟨b20, b21, b22, b23⟩ := box2 qb2
      obtain ⟨c20, c21, c22, c23⟩ := box2 qc2
      go_wp2_with fail
      go_at_call 73
      refine (kRb _).mono ?_
      rintro r w3 ⟨rfl, g3⟩
      have f3 := f2.same g3
      have qa3 := f3.heap hA (fun f => f)
      have qb3 := f3.heap hB (fun f => f)
      have qc3 := f3.heap hC (fun f => f)
      obtain ⟨a30, a31, a32, a33⟩ := box2 qa3
      obtain ⟨b30, b31, b32, b33⟩ := box2 qb3
      obtain ⟨c30, c31, c32, c33⟩ := box2 qc3
      go_wp2_with fail
      go_at_call 172
      refine (kI _).mono ?_
      rintro r w4 ⟨rfl, g4⟩
      have f4 := f3.same g4
      have qa4 := f4.heap hA (fun f => f)
      have qb4 := f4.heap hB (fun f => f)
      have qc4 := f4.heap hC (fun f => f)
      obtain ⟨a40, a41, a42, a43⟩ := box2 qa4
      obtain ⟨b40, b41, b42, b43⟩ := box2 qb4
      obtain ⟨c40, c41, c42, c43⟩ := box2 qc4
      go_wp2_with fail
      exact post_v (set_two qc4 _ _) rfl rfl rfl ⟨rfl, fr_two (f0.same f4) (by omega) _ _⟩
    rw [if_neg h1]
    have n1 : (ta == 1) = false := by simp [h1]
    clear h1
    by_cases h2 : ta = 2
    · subst h2
      rw [if_pos rfl]
      have kI := ofFloats_any op va vb ha hb
      generalize fltsF op va vb = R at kI ⊢
      obtain ⟨t, v⟩ := R
      dsimp only [vv] at kI ⊢
      clear ha hb n1
      go_enter Tryz.func159, Tryz.ntmps159
      go_wp2_with fail
      go_at_call 171
      refine (kB _).mono ?_
      rintro r w1 ⟨rfl, g1⟩
      have f1 := g1
      have qa1 := f1.heap hA (fun f => f)
      have qb1 := f1.heap hB (fun f => f)
      have qc1 := f1.heap hC (fun f => f)
      obtain ⟨a10, a11, a12, a13⟩ := box2 qa1
      obtain ⟨b10, b11, b12, b13⟩ := box2 qb1
      obtain ⟨c10, c11, c12, c13⟩ := box2 qc1
      go_wp2_with fail
      go_at_call 73
      refine (kRa _).mono ?_
      rintro r w2 ⟨rfl, g2⟩
      have f2 := f1.same g2
      have qa2 := f2.heap hA (fun f => f)
      have qb2 := f2.heap hB (fun f => f)
      have qc2 := f2.heap hC (fun f => f)
      obtain ⟨a20, a21, a22, a23⟩ := box2 qa2
      obtain ⟨b20, b21, b22, b23⟩ := box2 qb2
      obtain ⟨c20, c21, c22, c23⟩ := box2 qc2
      go_wp2_with fail
      go_at_call 73
      refine (kRb _).mono ?_
      rintro r w3 ⟨rfl, g3⟩
      have f3 := f2.same g3
      have qa3 := f3.heap hA (fun f => f)
      have qb3 := f3.heap hB (fun f => f)
      have qc3 := f3.heap hC (fun f => f)
      obtain ⟨a30, a31, a32, a33⟩ := box2 qa3
      obtain ⟨b30, b31, b32, b33⟩ := box2 qb3
      obtain ⟨c30, c31, c32, c33⟩ := box2 qc3
      go_wp2_with fail
      go_at_call 173
      refine (kI _).mono ?_
      rintro r w4 ⟨rfl, g4⟩
      have f4 := f3.same g4
      have qa4 := f4.heap hA (fun f => f)
      have qb4 := f4.heap hB (fun f => f)
      have qc4 := f4.heap hC (fun f => f)
      obtain ⟨a40, a41, a42, a43⟩ := box2 qa4
      obtain ⟨b40, b41, b42, b43⟩ := box2 qb4
      obtain ⟨c40, c41, c42, c43⟩ := box2 qc4
      go_wp2_with fail
      exact post_v (set_two qc4 _ _) rfl rfl rfl ⟨rfl, fr_two (f0.same f4) (by omega) _ _⟩
    rw [if_neg h2]
    have n2 : (ta == 2) = false := by simp [h2]
    clear h2
    have kI := ofBools_any op (va == 1) (vb == 1)
    generalize boolsF op (va == 1) (vb == 1) = R at kI ⊢
    obtain ⟨t, v⟩ := R
    dsimp only [vv] at kI ⊢
    clear ha hb
    go_enter Tryz.func159, Tryz.ntmps159
    go_wp2_with fail
    go_at_call 171
    refine (kB _).mono ?_
    rintro r w1 ⟨rfl, g1⟩
    have f1 := g1
    have qa1 := f1.heap hA (fun f => f)
    have qb1 := f1.heap hB (fun f => f)
    have qc1 := f1.heap hC (fun f => f)
    obtain ⟨a10, a11, a12, a13⟩ := box2 qa1
    obtain ⟨b10, b11, b12, b13⟩ := box2 qb1
    obtain ⟨c10, c11, c12, c13⟩ := box2 qc1
    go_wp2_with fail
    go_at_call 73
    refine (kRa _).mono ?_
    rintro r w2 ⟨rfl, g2⟩
    have f2 := f1.same g2
    have qa2 := f2.heap hA (fun f => f)
    have qb2 := f2.heap hB (fun f => f)
    have qc2 := f2.heap hC (fun f => f)
    obtain ⟨a20, a21, a22, a23⟩ := box2 qa2
    obtain ⟨b20, b21, b22, b23⟩ := box2 qb2
    obtain ⟨c20, c21, c22, c23⟩ := box2 qc2
    go_wp2_with fail
    go_at_call 73
    refine (kRb _).mono ?_
    rintro r w3 ⟨rfl, g3⟩
    have f3 := f2.same g3
    have qa3 := f3.heap hA (fun f => f)
    have qb3 := f3.heap hB (fun f => f)
    have qc3 := f3.heap hC (fun f => f)
    obtain ⟨a30, a31, a32, a33⟩ := box2 qa3
    obtain ⟨b30, b31, b32, b33⟩ := box2 qb3
    obtain ⟨c30, c31, c32, c33⟩ := box2 qc3
    go_wp2_with fail
    go_at_call 174
    refine (kI _).mono ?_
    rintro r w4 ⟨rfl, g4⟩
    have f4 := f3.same g4
    have qa4 := f4.heap hA (fun f => f)
    have qb4 := f4.heap hB (fun f => f)
    have qc4 := f4.heap hC (fun f => f)
    obtain ⟨a40, a41, a42, a43⟩ := box2 qa4
    obtain ⟨b40, b41, b42, b43⟩ := box2 qb4
    obtain ⟨c40, c41, c42, c43⟩ := box2 qc4
    go_wp2_with fail
    exact post_v (set_two qc4 _ _) rfl rfl rfl ⟨rfl, fr_two (f0.same f4) (by omega) _ _⟩
  · rw [no (Or.inl he)]
    have he' : (e != 0) = true := by simp [he]
    clear ha hb he no yes
    go_enter Tryz.func159, Tryz.ntmps159
    go_wp2_with fail
    go_at_call 171
    refine (kB _).mono ?_
    rintro r w1 ⟨rfl, g1⟩
    have f1 := g1
    have qa1 := f1.heap hA (fun f => f)
    have qb1 := f1.heap hB (fun f => f)
    have qc1 := f1.heap hC (fun f => f)
    obtain ⟨a10, a11, a12, a13⟩ := box2 qa1
    obtain ⟨b10, b11, b12, b13⟩ := box2 qb1
    obtain ⟨c10, c11, c12, c13⟩ := box2 qc1
    go_wp2_with fail
    exact post_v (set_two qc1 _ _) rfl rfl rfl ⟨rfl, fr_two (f0.same f1) (by omega) _ _⟩
set_option maxRecDepth 20000 in
theorem negative_any (ta va : Int) (ha : U64 va) (w : World) : Calls Tryz.prog 152 #[vv (ta, va)] w fun r w' => r = .returned (.tuple #[vv (if ta = 2 then ((2, F.Fl.negS va), 0) else wholeF (Z.fitV (-(wrap64 va))) (Z.fitE (-(wrap64 va)))).1, ci (if ta = 2 then (((2, F.Fl.negS va) : Vl), (0 : Int)) else wholeF (Z.fitV (-(wrap64 va))) (Z.fitE (-(wrap64 va)))).2]) ∧ Fr (fun _ => False) w w' := by
  dsimp only [vv]
  have hA : Hidden (((w.alloc (zb (ci ta) (.int .u64 va))).alloc zo).heap[w.heap.size]? = some (zb (ci ta) (.int .u64 va))) := (alloc_old _ _ _ (by simp)).trans (alloc_new _ _)
  have hC : Hidden (((w.alloc (zb (ci ta) (.int .u64 va))).alloc zo).heap[w.heap.size + 1]? = some zo) := alloc_at _ _ _ (by simp)
  have f0 : Fr (fun _ => False) w ((w.alloc (zb (ci ta) (.int .u64 va))).alloc zo) := (Fr.alloc _ _ _).same (Fr.alloc _ _ _)
  by_cases h2 : ta = 2
  · subst h2
    rw [if_pos rfl]
    have k1 := F.neg_any va ⟨ha.1, ha.2⟩
    have k2 := float_any (F.Fl.negS va)
    generalize F.Fl.negS va = R at k1 k2 ⊢
    dsimp only [vv] at k2 ⊢
    clear ha
    go_enter Tryz.func152, Tryz.ntmps152
    go_wp2_with fail
    go_at_call 167
    refine (k1 _).mono ?_
    rintro r w1 ⟨rfl, hw1⟩
    rw [← hw1]
    clear hw1
    go_wp2_with fail
    go_at_call 156
    refine (k2 _).mono ?_
    rintro r w2 ⟨rfl, g2⟩
    have f2 := g2
    have qa2 := f2.heap hA (fun f => f)
    have qc2 := f2.heap hC (fun f => f)
    obtain ⟨a20, a21, a22, a23⟩ := box2 qa2
    obtain ⟨c20, c21, c22, c23⟩ := box2 qc2
    go_wp2_with fail
    exact post_v (set_two qc2 _ _) rfl rfl rfl ⟨rfl, fr_two (f0.same f2) (by omega) _ _⟩
  · rw [if_neg h2]
    have n2 : (ta == 2) = false := by simp [h2]
    have k1 := Z.neg_any (wrap64 va) (wrapI _)
    have k2 := whole_any (Z.fitV (-(wrap64 va))) (Z.fitE (-(wrap64 va)))
    generalize wholeF (Z.fitV (-(wrap64 va))) (Z.fitE (-(wrap64 va))) = R at k2 ⊢
    obtain ⟨⟨t, v⟩, q⟩ := R
    dsimp only [vv] at k2 ⊢
    clear ha h2
    go_enter Tryz.func152, Tryz.ntmps152
    go_wp2_with fail
    go_at_call 168
    refine (k1 _).mono ?_
    rintro r w1 ⟨rfl, hw1⟩
    rw [← hw1]
    clear hw1
    go_wp2_with fail
    go_at_call 154
    refine (k2 _).mono ?_
    rintro r w2 ⟨rfl, g2⟩
    have f2 := g2
    have qa2 := f2.heap hA (fun f => f)
    have qc2 := f2.heap hC (fun f => f)
    obtain ⟨a20, a21, a22, a23⟩ := box2 qa2
    obtain ⟨c20, c21, c22, c23⟩ := box2 qc2
    go_wp2_with fail
    exact post_v (set_two qc2 _ _) rfl rfl rfl ⟨rfl, fr_two (f0.same f2) (by omega) _ _⟩
set_option maxRecDepth 20000 in
set_option maxHeartbeats 2000000 in
theorem un_any (op : Int) (a : Vl) (ha : U64 a.2) (w : World) : Calls Tryz.prog 138 #[ci op, vv a] w fun r w' => r = .returned (.tuple #[vv (unF op a).1, ci (unF op a).2]) ∧ Fr (fun _ => False) w w' := by
  obtain ⟨ta, va⟩ := a
  dsimp only [vv] at ha ⊢
  have hA : Hidden (((w.alloc (zb (ci ta) (.int .u64 va))).alloc zo).heap[w.heap.size]? = some (zb (ci ta) (.int .u64 va))) := (alloc_old _ _ _ (by simp)).trans (alloc_new _ _)
  have hC : Hidden (((w.alloc (zb (ci ta) (.int .u64 va))).alloc zo).heap[w.heap.size + 1]? = some zo) := alloc_at _ _ _ (by simp)
  have f0 : Fr (fun _ => False) w ((w.alloc (zb (ci ta) (.int .u64 va))).alloc zo) := (Fr.alloc _ _ _).same (Fr.alloc _ _ _)
  have kB := Ty.unary_any op ta
  have kRa := Ty.rightv_any ta va ha
  have no := @unF_no op (ta, va)
  have yes := @unF_yes op (ta, va)
  dsimp only at no yes
  generalize unF op (ta, va) = R0 at *
  generalize Ty.unS op ta = P at *
  obtain ⟨p, e⟩ := P
  dsimp only at kB no yes
  generalize Ty.rightV ta va = A at *
  by_cases he : e = 0
  · subst he
    cases A
    · rw [no (by simp)]
      clear ha no yes
      go_enter Tryz.func138, Tryz.ntmps138
      go_wp2_with fail
      go_at_call 151
      refine (kB _).mono ?_
      rintro r w1 ⟨rfl, g1⟩
      have f1 := g1
      have qa1 := f1.heap hA (fun f => f)
      have qc1 := f1.heap hC (fun f => f)
      obtain ⟨a10, a11, a12, a13⟩ := box2 qa1
      obtain ⟨c10, c11, c12, c13⟩ := box2 qc1
      go_wp2_with fail
      go_at_call 73
      refine (kRa _).mono ?_
      rintro r w2 ⟨rfl, g2⟩
      have f2 := f1.same g2
      have qa2 := f2.heap hA (fun f => f)
      have qc2 := f2.heap hC (fun f => f)
      obtain ⟨a20, a21, a22, a23⟩ := box2 qa2
      obtain ⟨c20, c21, c22, c23⟩ := box2 qc2
      go_wp2_with fail
      exact post_v (set_two qc2 _ _) rfl rfl rfl ⟨rfl, fr_two (f0.same f2) (by omega) _ _⟩
    rw [yes rfl rfl]
    clear no yes
    by_cases h1 : op = 1
    · subst h1
      rw [if_pos rfl]
      have kI := negative_any ta va ha
      generalize (if ta = 2 then (((2, F.Fl.negS va) : Vl), (0 : Int)) else wholeF (Z.fitV (-(wrap64 va))) (Z.fitE (-(wrap64 va)))) = R at kI ⊢
      obtain ⟨⟨t, v⟩, q⟩ := R
      dsimp only [vv] at kI ⊢
      clear ha
      go_enter Tryz.func138, Tryz.ntmps138
      go_wp2_with fail
      go_at_call 151
      refine (kB _).mono ?_
      rintro r w1 ⟨rfl, g1⟩
      have f1 := g1
      have qa1 := f1.heap hA (fun f => f)
      have qc1 := f1.heap hC (fun f => f)
      obtain ⟨a10, a11, a12, a13⟩ := box2 qa1
      obtain ⟨c10, c11, c12, c13⟩ := box2 qc1
      go_wp2_with fail
      go_at_call 73
      refine (kRa _).mono ?_
      rintro r w2 ⟨rfl, g2⟩
      have f2 := f1.same g2
      have qa2 := f2.heap hA (fun f => f)
      have qc2 := f2.heap hC (fun f => f)
      obtain ⟨a20, a21, a22, a23⟩ := box2 qa2
      obtain ⟨c20, c21, c22, c23⟩ := box2 qc2
      go_wp2_with fail
      go_at_call 152
      refine (kI _).mono ?_
      rintro r w3 ⟨rfl, g3⟩
      have f3 := f2.same g3
      have qa3 := f3.heap hA (fun f => f)
      have qc3 := f3.heap hC (fun f => f)
      obtain ⟨a30, a31, a32, a33⟩ := box2 qa3
      obtain ⟨c30, c31, c32, c33⟩ := box2 qc3
      go_wp2_with fail
      exact post_v (set_two qc3 _ _) rfl rfl rfl ⟨rfl, fr_two (f0.same f3) (by omega) _ _⟩
    rw [if_neg h1]
    have n1 : (op == 1) = false := by simp [h1]
    clear h1
    by_cases h2 : op = 2
    · subst h2
      rw [if_pos rfl]
      have kI := truth_any (va == 0)
      generalize truthF (va == 0) = R at kI ⊢
      obtain ⟨t, v⟩ := R
      dsimp only [vv] at kI ⊢
      clear ha n1
      go_enter Tryz.func138, Tryz.ntmps138
      go_wp2_with fail
      go_at_call 151
      refine (kB _).mono ?_
      rintro r w1 ⟨rfl, g1⟩
      have f1 := g1
      have qa1 := f1.heap hA (fun f => f)
      have qc1 := f1.heap hC (fun f => f)
      obtain ⟨a10, a11, a12, a13⟩ := box2 qa1
      obtain ⟨c10, c11, c12, c13⟩ := box2 qc1
      go_wp2_with fail
      go_at_call 73
      refine (kRa _).mono ?_
      rintro r w2 ⟨rfl, g2⟩
      have f2 := f1.same g2
      have qa2 := f2.heap hA (fun f => f)
      have qc2 := f2.heap hC (fun f => f)
      obtain ⟨a20, a21, a22, a23⟩ := box2 qa2
      obtain ⟨c20, c21, c22, c23⟩ := box2 qc2
      go_wp2_with fail
      go_at_call 153
      refine (kI _).mono ?_
      rintro r w3 ⟨rfl, g3⟩
      have f3 := f2.same g3
      have qa3 := f3.heap hA (fun f => f)
      have qc3 := f3.heap hC (fun f => f)
      obtain ⟨a30, a31, a32, a33⟩ := box2 qa3
      obtain ⟨c30, c31, c32, c33⟩ := box2 qc3
      go_wp2_with fail
      exact post_v (set_two qc3 _ _) rfl rfl rfl ⟨rfl, fr_two (f0.same f3) (by omega) _ _⟩
    rw [if_neg h2]
    have n2 : (op == 2) = false := by simp [h2]
    clear h2
    by_cases h3 : op = 3
    · subst h3
      rw [if_pos rfl]
      have kI := F.toInt_any va ⟨ha.1, ha.2⟩
      have kW := whole_any (F.toI va) (F.toE va)
      generalize wholeF (F.toI va) (F.toE va) = R at kW ⊢
      obtain ⟨⟨t, v⟩, q⟩ := R
      dsimp only [vv] at kW ⊢
      clear ha n1 n2
      go_enter Tryz.func138, Tryz.ntmps138
      go_wp2_with fail
      go_at_call 151
      refine (kB _).mono ?_
      rintro r w1 ⟨rfl, g1⟩
      have f1 := g1
      have qa1 := f1.heap hA (fun f => f)
      have qc1 := f1.heap hC (fun f => f)
      obtain ⟨a10, a11, a12, a13⟩ := box2 qa1
      obtain ⟨c10, c11, c12, c13⟩ := box2 qc1
      go_wp2_with fail
      go_at_call 73
      refine (kRa _).mono ?_
      rintro r w2 ⟨rfl, g2⟩
      have f2 := f1.same g2
      have qa2 := f2.heap hA (fun f => f)
      have qc2 := f2.heap hC (fun f => f)
      obtain ⟨a20, a21, a22, a23⟩ := box2 qa2
      obtain ⟨c20, c21, c22, c23⟩ := box2 qc2
      go_wp2_with fail
      go_at_call 155
      refine (kI _).mono ?_
      rintro r w3 ⟨rfl, hw3⟩
      rw [← hw3]
      clear hw3
      go_wp2_with fail
      go_at_call 154
      refine (kW _).mono ?_
      rintro r w4 ⟨rfl, g4⟩
      have f4 := f2.same g4
      have qa4 := f4.heap hA (fun f => f)
      have qc4 := f4.heap hC (fun f => f)
      obtain ⟨a40, a41, a42, a43⟩ := box2 qa4
      obtain ⟨c40, c41, c42, c43⟩ := box2 qc4
      go_wp2_with fail
      exact post_v (set_two qc4 _ _) rfl rfl rfl ⟨rfl, fr_two (f0.same f4) (by omega) _ _⟩
    rw [if_neg h3]
    have n3 : (op == 3) = false := by simp [h3]
    clear h3
    have kI := F.fromInt_any (wrap64 va)
    have kW := float_any ((floatOfInt .f64 (wrap64 va) : Nat) : Int)
    generalize ((floatOfInt .f64 (wrap64 va) : Nat) : Int) = R at kI kW ⊢
    dsimp only [vv] at kW ⊢
    clear ha
    go_enter Tryz.func138, Tryz.ntmps138
    go_wp2_with fail
    go_at_call 151
    refine (kB _).mono ?_
    rintro r w1 ⟨rfl, g1⟩
    have f1 := g1
    have qa1 := f1.heap hA (fun f => f)
    have qc1 := f1.heap hC (fun f => f)
    obtain ⟨a10, a11, a12, a13⟩ := box2 qa1
    obtain ⟨c10, c11, c12, c13⟩ := box2 qc1
    go_wp2_with fail
    go_at_call 73
    refine (kRa _).mono ?_
    rintro r w2 ⟨rfl, g2⟩
    have f2 := f1.same g2
    have qa2 := f2.heap hA (fun f => f)
    have qc2 := f2.heap hC (fun f => f)
    obtain ⟨a20, a21, a22, a23⟩ := box2 qa2
    obtain ⟨c20, c21, c22, c23⟩ := box2 qc2
    go_wp2_with fail
    go_at_call 157
    refine (kI _).mono ?_
    rintro r w3 ⟨rfl, hw3⟩
    rw [← hw3]
    clear hw3
    go_wp2_with fail
    go_at_call 156
    refine (kW _).mono ?_
    rintro r w4 ⟨rfl, g4⟩
    have f4 := f2.same g4
    have qa4 := f4.heap hA (fun f => f)
    have qc4 := f4.heap hC (fun f => f)
    obtain ⟨a40, a41, a42, a43⟩ := box2 qa4
    obtain ⟨c40, c41, c42, c43⟩ := box2 qc4
    go_wp2_with fail
    exact post_v (set_two qc4 _ _) rfl rfl rfl ⟨rfl, fr_two (f0.same f4) (by omega) _ _⟩
  · rw [no (Or.inl he)]
    have he' : (e != 0) = true := by simp [he]
    clear ha he no yes
    go_enter Tryz.func138, Tryz.ntmps138
    go_wp2_with fail
    go_at_call 151
    refine (kB _).mono ?_
    rintro r w1 ⟨rfl, g1⟩
    have f1 := g1
    have qa1 := f1.heap hA (fun f => f)
    have qc1 := f1.heap hC (fun f => f)
    obtain ⟨a10, a11, a12, a13⟩ := box2 qa1
    obtain ⟨c10, c11, c12, c13⟩ := box2 qc1
    go_wp2_with fail
    exact post_v (set_two qc1 _ _) rfl rfl rfl ⟨rfl, fr_two (f0.same f1) (by omega) _ _⟩
end Go.Proofs.YtpjahcncknccdaaGreat.Fo
