/- Texts of ours, in one. -/
import Derived.Test.YtakkiipkmogagaaGreatFoS
import Derived.Laws.ResultCell
import Derived.Test.YtakkiipkmogagaaGreatTyAll
namespace Go.Proofs.YtakkiipkmogagaaGreat.Fo
open Go.RowKit
set_option linter.unusedSimpArgs false
set_option linter.unusedVariables false

theorem frozen_row {w : World} {g : Nat} {cs : Array Value} {t : TypeId} (hg : w.heap[g]? = some (.cells cs t (0, 0))) (j : Nat) : w.frozen? ⟨g, j, none⟩ = false := by simp [World.frozen?, hg]
theorem set_two {w : World} {g : Nat} {a b : Value} {t : TypeId} (hg : w.heap[g]? = some (.cells #[a, b] t (0, 0))) (x y : Value) : ((w.setCell ⟨g, 0, none⟩ x).setCell ⟨g, 1, none⟩ y).heap[g]? = some (.cells #[x, y] t (0, 0)) := by
  have h1 := heap_setCell_same w g 0 #[a, b] t x hg
  have h2 := heap_setCell_same (w.setCell ⟨g, 0, none⟩ x) g 1 _ t y h1
  exact h2
theorem fr_two {S : Nat → Prop} {w w' : World} (h : Fr S w w') {g : Nat} (hg : w.heap.size ≤ g) (x y : Value) : Fr S w ((w'.setCell ⟨g, 0, none⟩ x).setCell ⟨g, 1, none⟩ y) :=
  h.over ((Fr.setCell w' ⟨g, 0, none⟩ x).same (Fr.setCell _ ⟨g, 1, none⟩ y)) (fun k hk => by subst hk; exact hg)
theorem info_val : (Tryz.prog.info? 52).map (·.size) = some 2 := by kernel_rfl
abbrev zb (x y : Value) : Obj := .cells #[x, y] 52 (0, 0)
/-- Two results, the first one a value that lies in memory. -/
theorem post_v {fn : Func} {R : Ending → World → Prop} {a : Act} {w : World} {p u : Tmp} {g : Nat} {x y : Value} (hg : w.heap[g]? = some (zb x y)) (h : fn.results = #[.cell p 52, .tmp u]) (hd : a.defers = [])
    (hp : a.tmps.getD p undef = .pointer (some ⟨g, 0, none⟩)) (hR : R (.returned (.tuple #[.agg #[x, y], a.tmps.getD u undef])) w) : bodyPost Tryz.prog fn R .ret a w := by
  refine ⟨hd, _, ?_, hR⟩
  rw [results_cell_tmp h, hp]
  have hl : (loadVar 52 ⟨g, 0, none⟩).run Tryz.prog w = .ok (.agg #[x, y]) w := run_loadVar_row _ _ _ _ _ _ _ hg Tryz.underlying52 rfl info_val
  simp [asAddr, hl, Result.andThen]
theorem post_v1 {fn : Func} {R : Ending → World → Prop} {a : Act} {w : World} {p : Tmp} {g : Nat} {x y : Value} (hg : w.heap[g]? = some (zb x y)) (h : fn.results = #[.cell p 52]) (hd : a.defers = [])
    (hp : a.tmps.getD p undef = .pointer (some ⟨g, 0, none⟩)) (hR : R (.returned (.agg #[x, y])) w) : bodyPost Tryz.prog fn R .ret a w :=
  ⟨hd, _, results_cell_row h _ _ g _ #[x, y] (0, 0) _ hp hg Tryz.underlying52 rfl info_val, hR⟩
/-- What a value's box holds. -/
theorem box2 {w : World} {g : Nat} {x y : Value} (hg : w.heap[g]? = some (zb x y)) : w.cell? ⟨g, 0, none⟩ = some x ∧ w.cell? ⟨g, 1, none⟩ = some y ∧ w.frozen? ⟨g, 0, none⟩ = false ∧ w.frozen? ⟨g, 1, none⟩ = false :=
  ⟨cell_of_row _ _ 0 _ _ _ hg, cell_of_row _ _ 1 _ _ _ hg, frozen_row hg 0, frozen_row hg 1⟩
theorem alloc_at (w : World) (o : Obj) (k : Nat) (h : k = w.heap.size) : (w.alloc o).heap[k]? = some o := by rw [h]; exact alloc_new _ _

theorem trapOf_any (e : Int) (w : World) : Calls Tryz.prog 183 #[ci e] w fun r w' => r = .returned (ci (trapF e)) ∧ w' = w := by
  unfold trapF
  by_cases h1 : e = 80
  · subst h1
    go_enter Tryz.func183, Tryz.ntmps183
    go_wp2
    go_ret
    exact ⟨rfl, rfl⟩
  by_cases h2 : e = 81
  · subst h2
    go_enter Tryz.func183, Tryz.ntmps183
    go_wp2
    go_ret
    exact ⟨rfl, rfl⟩
  rw [if_neg h1, if_neg h2]
  have b1 : (e == 80) = false := by simp [h1]
  have b2 : (e == 81) = false := by simp [h2]
  clear h1 h2
  go_enter Tryz.func183, Tryz.ntmps183
  go_wp2
  go_ret
  exact ⟨rfl, rfl⟩
theorem errno_any (t : Int) (w : World) : Calls Tryz.prog 130 #[ci t] w fun r w' => r = .returned (ci (errnoF t)) ∧ w' = w := by
  unfold errnoF
  by_cases h0 : t = 0
  · subst h0
    go_enter Tryz.func130, Tryz.ntmps130
    go_wp2
    go_ret
    exact ⟨rfl, rfl⟩
  by_cases h1 : t = 1
  · subst h1
    go_enter Tryz.func130, Tryz.ntmps130
    go_wp2
    go_ret
    exact ⟨rfl, rfl⟩
  by_cases h2 : t = 2
  · subst h2
    go_enter Tryz.func130, Tryz.ntmps130
    go_wp2
    go_ret
    exact ⟨rfl, rfl⟩
  by_cases h3 : t = 3
  · subst h3
    go_enter Tryz.func130, Tryz.ntmps130
    go_wp2
    go_ret
    exact ⟨rfl, rfl⟩
  rw [if_neg h0, if_neg h1, if_neg h2, if_neg h3]
  have b0 : (t == 0) = false := by simp [h0]
  have b1 : (t == 1) = false := by simp [h1]
  have b2 : (t == 2) = false := by simp [h2]
  have b3 : (t == 3) = false := by simp [h3]
  clear h0 h1 h2 h3
  go_enter Tryz.func130, Tryz.ntmps130
  go_wp2
  go_ret
  exact ⟨rfl, rfl⟩
theorem whole_any (n e : Int) (w : World) : Calls Tryz.prog 168 #[ci n, ci e] w fun r w' => r = .returned (.tuple #[vv (wholeF n e).1, ci (wholeF n e).2]) ∧ Fr (fun _ => False) w w' := by
  unfold wholeF
  by_cases h : e = 0
  · subst h
    go_enter Tryz.func168, Tryz.ntmps168
    go_wp2
    refine post_v (alloc_at _ _ _ (by simp)) rfl rfl rfl ⟨rfl, Fr.alloc _ _ _⟩
  · rw [if_neg h]
    have b0 : (e != 0) = true := by simp [h]
    have kt := trapOf_any e
    clear h
    go_enter Tryz.func168, Tryz.ntmps168
    go_wp2_with (go_at_call 183; refine (kt _).mono ?_; rintro r w' ⟨rfl, hw⟩; rw [hw]; clear hw)
    refine post_v (alloc_at _ _ _ (by simp)) rfl rfl rfl ⟨rfl, Fr.alloc _ _ _⟩
theorem float_any (b : Int) (w : World) : Calls Tryz.prog 170 #[.int .u64 b] w fun r w' => r = .returned (vv (2, b)) ∧ Fr (fun _ => False) w w' := by
  go_enter Tryz.func170, Tryz.ntmps170
  go_wp2
  exact post_v1 (alloc_at _ _ _ (by simp)) rfl rfl rfl ⟨rfl, Fr.alloc _ _ _⟩
theorem truth_any (b : Bool) (w : World) : Calls Tryz.prog 167 #[.bool b] w fun r w' => r = .returned (vv (truthF b)) ∧ Fr (fun _ => False) w w' := by
  cases b
  · go_enter Tryz.func167, Tryz.ntmps167
    go_wp2
    exact post_v1 (alloc_at _ _ _ (by simp)) rfl rfl rfl ⟨rfl, Fr.alloc _ _ _⟩
  · go_enter Tryz.func167, Tryz.ntmps167
    go_wp2
    exact post_v1 (alloc_at _ _ _ (by simp)) rfl rfl rfl ⟨rfl, Fr.alloc _ _ _⟩
theorem beqd (o : Int) : (o == 0) = decide (o = 0) := rfl
theorem intsAre_any (op o : Int) (w : World) : Calls Tryz.prog 194 #[ci op, ci o] w fun r w' => r = .returned (.bool (cmpF op o)) ∧ w' = w := by
  unfold cmpF
  by_cases h6 : op = 6
  · subst h6
    go_enter Tryz.func194, Tryz.ntmps194
    go_wp2
    go_ret
    exact ⟨by simp [beqd], rfl⟩
  by_cases h7 : op = 7
  · subst h7
    go_enter Tryz.func194, Tryz.ntmps194
    go_wp2
    go_ret
    exact ⟨by simp [bne, Bool.beq_eq_decide_eq], rfl⟩
  by_cases h8 : op = 8
  · subst h8
    go_enter Tryz.func194, Tryz.ntmps194
    go_wp2
    go_ret
    exact ⟨by simp, rfl⟩
  by_cases h9 : op = 9
  · subst h9
    go_enter Tryz.func194, Tryz.ntmps194
    go_wp2
    go_ret
    exact ⟨by simp, rfl⟩
  by_cases h10 : op = 10
  · subst h10
    go_enter Tryz.func194, Tryz.ntmps194
    go_wp2
    go_ret
    exact ⟨by simp, rfl⟩
  rw [if_neg h6, if_neg h7, if_neg h8, if_neg h9, if_neg h10]
  have b6 : (op == 6) = false := by simp [h6]
  have b7 : (op == 7) = false := by simp [h7]
  have b8 : (op == 8) = false := by simp [h8]
  have b9 : (op == 9) = false := by simp [h9]
  have b10 : (op == 10) = false := by simp [h10]
  clear h6 h7 h8 h9 h10
  go_enter Tryz.func194, Tryz.ntmps194
  go_wp2
  go_ret
  exact ⟨by simp, rfl⟩
end Go.Proofs.YtakkiipkmogagaaGreat.Fo

namespace Go.Proofs.YtakkiipkmogagaaGreat.Fo
open Go.RowKit
set_option linter.unusedSimpArgs false
set_option linter.unusedVariables false

abbrev zo : Obj := zb (ci 0) (.int .u64 0)
theorem grown_fr {w w' : World} (h : Grown w w') : Fr (fun _ => False) w w' := Ty.fr_of_kept h.1 h.2.2
theorem ofInts_any (op a b : Int) (ha : I64 a) (hb : I64 b) (w : World) : Calls Tryz.prog 186 #[ci op, ci a, ci b] w fun r w' => r = .returned (.tuple #[vv (intsF op a b).1, ci (intsF op a b).2]) ∧ Fr (fun _ => False) w w' := by
  unfold intsF
  by_cases h1 : op = 1
  · subst h1
    have k1 := Z.add_any a b ha hb
    have k2 := whole_any (Z.fitV (a + b)) (Z.fitE (a + b))
    rw [if_pos rfl]
    generalize wholeF (Z.fitV (a + b)) (Z.fitE (a + b)) = R at k2 ⊢
    obtain ⟨⟨t, v⟩, q⟩ := R
    dsimp only [vv] at k2 ⊢
    have hb0 : Hidden ((w.alloc zo).heap[w.heap.size]? = some zo) := alloc_new _ _
    have f0 := Fr.alloc (fun _ => False) w zo
    clear ha hb
    go_enter Tryz.func186, Tryz.ntmps186
    go_wp2_with (first | (go_at_call 190; refine (k1 _).mono ?_; rintro r w1 ⟨rfl, hw⟩; rw [← hw]; clear hw) | (go_at_call 168; refine (k2 _).mono ?_; rintro r w2 ⟨rfl, f2⟩; have q2 := f2.heap hb0 (fun f => f); obtain ⟨c0, c1, z0, z1⟩ := box2 q2))
    exact post_v (set_two q2 _ _) rfl rfl rfl ⟨rfl, fr_two (f0.same f2) (Nat.le_refl _) _ _⟩
  by_cases h2 : op = 2
  · subst h2
    have k1 := Z.sub_any a b ha hb
    have k2 := whole_any (Z.fitV (a - b)) (Z.fitE (a - b))
    rw [if_neg (by decide), if_pos rfl]
    generalize wholeF (Z.fitV (a - b)) (Z.fitE (a - b)) = R at k2 ⊢
    obtain ⟨⟨t, v⟩, q⟩ := R
    dsimp only [vv] at k2 ⊢
    have hb0 : Hidden ((w.alloc zo).heap[w.heap.size]? = some zo) := alloc_new _ _
    have f0 := Fr.alloc (fun _ => False) w zo
    clear ha hb
    go_enter Tryz.func186, Tryz.ntmps186
    go_wp2_with (first | (go_at_call 189; refine (k1 _).mono ?_; rintro r w1 ⟨rfl, hw⟩; rw [← hw]; clear hw) | (go_at_call 168; refine (k2 _).mono ?_; rintro r w2 ⟨rfl, f2⟩; have q2 := f2.heap hb0 (fun f => f); obtain ⟨c0, c1, z0, z1⟩ := box2 q2))
    exact post_v (set_two q2 _ _) rfl rfl rfl ⟨rfl, fr_two (f0.same f2) (Nat.le_refl _) _ _⟩
  by_cases h3 : op = 3
  · subst h3
    have k1 := Z.mul_any a b ha hb
    have k2 := whole_any (Z.fitV (a * b)) (Z.fitE (a * b))
    rw [if_neg (by decide), if_neg (by decide), if_pos rfl]
    generalize wholeF (Z.fitV (a * b)) (Z.fitE (a * b)) = R at k2 ⊢
    obtain ⟨⟨t, v⟩, q⟩ := R
    dsimp only [vv] at k2 ⊢
    have hb0 : Hidden ((w.alloc zo).heap[w.heap.size]? = some zo) := alloc_new _ _
    have f0 := Fr.alloc (fun _ => False) w zo
    clear ha hb
    go_enter Tryz.func186, Tryz.ntmps186
    go_wp2_with (first | (go_at_call 191; refine (k1 _).mono ?_; rintro r w1 ⟨rfl, hw⟩; rw [← hw]; clear hw) | (go_at_call 168; refine (k2 _).mono ?_; rintro r w2 ⟨rfl, f2⟩; have q2 := f2.heap hb0 (fun f => f); obtain ⟨c0, c1, z0, z1⟩ := box2 q2))
    exact post_v (set_two q2 _ _) rfl rfl rfl ⟨rfl, fr_two (f0.same f2) (Nat.le_refl _) _ _⟩
  by_cases h4 : op = 4
  · subst h4
    have k1 := Z.div_any a b ha hb
    have k2 := whole_any (Z.divV a b) (Z.divE a b)
    rw [if_neg (by decide), if_neg (by decide), if_neg (by decide), if_pos rfl]
    generalize wholeF (Z.divV a b) (Z.divE a b) = R at k2 ⊢
    obtain ⟨⟨t, v⟩, q⟩ := R
    dsimp only [vv] at k2 ⊢
    have hb0 : Hidden ((w.alloc zo).heap[w.heap.size]? = some zo) := alloc_new _ _
    have f0 := Fr.alloc (fun _ => False) w zo
    clear ha hb
    go_enter Tryz.func186, Tryz.ntmps186
    go_wp2_with (first | (go_at_call 192; refine (k1 _).mono ?_; rintro r w1 ⟨rfl, hw⟩; rw [← hw]; clear hw) | (go_at_call 168; refine (k2 _).mono ?_; rintro r w2 ⟨rfl, f2⟩; have q2 := f2.heap hb0 (fun f => f); obtain ⟨c0, c1, z0, z1⟩ := box2 q2))
    exact post_v (set_two q2 _ _) rfl rfl rfl ⟨rfl, fr_two (f0.same f2) (Nat.le_refl _) _ _⟩
  by_cases h5 : op = 5
  · subst h5
    have k1 := Z.rem_any a b ha hb
    have k2 := whole_any (Z.remV a b) (Z.remE b)
    rw [if_neg (by decide), if_neg (by decide), if_neg (by decide), if_neg (by decide), if_pos rfl]
    generalize wholeF (Z.remV a b) (Z.remE b) = R at k2 ⊢
    obtain ⟨⟨t, v⟩, q⟩ := R
    dsimp only [vv] at k2 ⊢
    have hb0 : Hidden ((w.alloc zo).heap[w.heap.size]? = some zo) := alloc_new _ _
    have f0 := Fr.alloc (fun _ => False) w zo
    clear ha hb
    go_enter Tryz.func186, Tryz.ntmps186
    go_wp2_with (first | (go_at_call 193; refine (k1 _).mono ?_; rintro r w1 ⟨rfl, hw⟩; rw [← hw]; clear hw) | (go_at_call 168; refine (k2 _).mono ?_; rintro r w2 ⟨rfl, f2⟩; have q2 := f2.heap hb0 (fun f => f); obtain ⟨c0, c1, z0, z1⟩ := box2 q2))
    exact post_v (set_two q2 _ _) rfl rfl rfl ⟨rfl, fr_two (f0.same f2) (Nat.le_refl _) _ _⟩
  rw [if_neg h1, if_neg h2, if_neg h3, if_neg h4, if_neg h5]
  have k1 := Z.cmp_any a b
  have k2 := intsAre_any op (Z.cmpS a b)
  have k3 := truth_any (cmpF op (Z.cmpS a b))
  generalize truthF (cmpF op (Z.cmpS a b)) = R at k3 ⊢
  obtain ⟨t, v⟩ := R
  dsimp only [vv] at k3 ⊢
  have hb0 : Hidden ((w.alloc zo).heap[w.heap.size]? = some zo) := alloc_new _ _
  have f0 := Fr.alloc (fun _ => False) w zo
  have b1 : (op == 1) = false := by simp [h1]
  have b2 : (op == 2) = false := by simp [h2]
  have b3 : (op == 3) = false := by simp [h3]
  have b4 : (op == 4) = false := by simp [h4]
  have b5 : (op == 5) = false := by simp [h5]
  clear ha hb h1 h2 h3 h4 h5
  go_enter Tryz.func186, Tryz.ntmps186
  go_wp2_with (first | (go_at_call 195; refine (k1 _).mono ?_; rintro r w1 ⟨rfl, hw⟩; rw [← hw]; clear hw) | (go_at_call 194; refine (k2 _).mono ?_; rintro r w1 ⟨rfl, hw⟩; rw [hw]; clear hw) | (go_at_call 167; refine (k3 _).mono ?_; rintro r w2 ⟨rfl, f2⟩; have q2 := f2.heap hb0 (fun f => f); obtain ⟨c0, c1, z0, z1⟩ := box2 q2))
  exact post_v (set_two q2 _ _) rfl rfl rfl ⟨rfl, fr_two (f0.same f2) (Nat.le_refl _) _ _⟩
theorem floatsAre_any (op a b : Int) (ha : U64 a) (hb : U64 b) (w : World) : Calls Tryz.prog 200 #[ci op, .int .u64 a, .int .u64 b] w fun r w' => r = .returned (.bool (fcmpF op a b)) ∧ w' = w := by
  have e1 := F.equal_any a b ⟨ha.1, ha.2⟩ ⟨hb.1, hb.2⟩
  have l1 := F.less_any a b ⟨ha.1, ha.2⟩ ⟨hb.1, hb.2⟩
  have l2 := F.less_any b a ⟨hb.1, hb.2⟩ ⟨ha.1, ha.2⟩
  have q1 := F.lessEq_any a b ⟨ha.1, ha.2⟩ ⟨hb.1, hb.2⟩
  have q2 := F.lessEq_any b a ⟨hb.1, hb.2⟩ ⟨ha.1, ha.2⟩
  unfold fcmpF
  generalize F.Fl.eqS a b = E at *
  generalize F.Fl.eqS b a = E' at *
  generalize F.Fl.lessS a b = L at *
  generalize F.Fl.lessS b a = L' at *
  clear ha hb
  by_cases h6 : op = 6
  · subst h6
    clear l1 l2 q1 q2
    go_enter Tryz.func200, Tryz.ntmps200
    go_wp2_with (go_at_call 207; refine (e1 _).mono ?_; rintro r w1 ⟨rfl, hw⟩; rw [← hw]; clear hw)
    go_ret
    exact ⟨by simp, rfl⟩
  by_cases h7 : op = 7
  · subst h7
    clear l1 l2 q1 q2
    go_enter Tryz.func200, Tryz.ntmps200
    go_wp2_with (go_at_call 207; refine (e1 _).mono ?_; rintro r w1 ⟨rfl, hw⟩; rw [← hw]; clear hw)
    go_ret
    exact ⟨by simp, rfl⟩
  by_cases h8 : op = 8
  · subst h8
    clear e1 l2 q1 q2
    go_enter Tryz.func200, Tryz.ntmps200
    go_wp2_with (go_at_call 208; refine (l1 _).mono ?_; rintro r w1 ⟨rfl, hw⟩; rw [← hw]; clear hw)
    go_ret
    exact ⟨by simp, rfl⟩
  by_cases h9 : op = 9
  · subst h9
    clear e1 l1 l2 q2
    go_enter Tryz.func200, Tryz.ntmps200
    go_wp2_with (go_at_call 209; refine (q1 _).mono ?_; rintro r w1 ⟨rfl, hw⟩; rw [← hw]; clear hw)
    go_ret
    exact ⟨by simp, rfl⟩
  by_cases h10 : op = 10
  · subst h10
    clear e1 l1 q1 q2
    go_enter Tryz.func200, Tryz.ntmps200
    go_wp2_with (go_at_call 208; refine (l2 _).mono ?_; rintro r w1 ⟨rfl, hw⟩; rw [← hw]; clear hw)
    go_ret
    exact ⟨by simp, rfl⟩
  rw [if_neg h6, if_neg h7, if_neg h8, if_neg h9, if_neg h10]
  have b6 : (op == 6) = false := by simp [h6]
  have b7 : (op == 7) = false := by simp [h7]
  have b8 : (op == 8) = false := by simp [h8]
  have b9 : (op == 9) = false := by simp [h9]
  have b10 : (op == 10) = false := by simp [h10]
  clear h6 h7 h8 h9 h10 e1 l1 l2 q1
  go_enter Tryz.func200, Tryz.ntmps200
  go_wp2_with (go_at_call 209; refine (q2 _).mono ?_; rintro r w1 ⟨rfl, hw⟩; rw [← hw]; clear hw)
  go_ret
  exact ⟨by simp, rfl⟩
theorem ofFloats_any (op a b : Int) (ha : U64 a) (hb : U64 b) (w : World) : Calls Tryz.prog 187 #[ci op, .int .u64 a, .int .u64 b] w fun r w' => r = .returned (vv (fltsF op a b)) ∧ Fr (fun _ => False) w w' := by
  unfold fltsF
  by_cases h1 : op = 1
  · subst h1
    have k1 := F.add_any a b
    rw [if_pos rfl]
    generalize F.resS (floatBits .add .f64 a.toNat b.toNat) = R at k1 ⊢
    have k2 := float_any R
    have hb0 : Hidden ((w.alloc zo).heap[w.heap.size]? = some zo) := alloc_new _ _
    have f0 := Fr.alloc (fun _ => False) w zo
    clear ha hb
    go_enter Tryz.func187, Tryz.ntmps187
    go_wp2_with (first | (go_at_call 196; refine (k1 _).mono ?_; rintro r w1 ⟨rfl, hg1⟩; have f1 := grown_fr hg1) | (go_at_call 170; refine (k2 _).mono ?_; rintro r w2 ⟨rfl, f2⟩; have q2 := (f1.same f2).heap hb0 (fun f => f); obtain ⟨c0, c1, z0, z1⟩ := box2 q2))
    exact post_v1 (set_two q2 _ _) rfl rfl rfl ⟨rfl, fr_two (f0.same (f1.same f2)) (Nat.le_refl _) _ _⟩
  by_cases h2 : op = 2
  · subst h2
    have k1 := F.sub_any a b
    rw [if_neg (by decide), if_pos rfl]
    generalize F.resS (floatBits .sub .f64 a.toNat b.toNat) = R at k1 ⊢
    have k2 := float_any R
    have hb0 : Hidden ((w.alloc zo).heap[w.heap.size]? = some zo) := alloc_new _ _
    have f0 := Fr.alloc (fun _ => False) w zo
    clear ha hb
    go_enter Tryz.func187, Tryz.ntmps187
    go_wp2_with (first | (go_at_call 197; refine (k1 _).mono ?_; rintro r w1 ⟨rfl, hg1⟩; have f1 := grown_fr hg1) | (go_at_call 170; refine (k2 _).mono ?_; rintro r w2 ⟨rfl, f2⟩; have q2 := (f1.same f2).heap hb0 (fun f => f); obtain ⟨c0, c1, z0, z1⟩ := box2 q2))
    exact post_v1 (set_two q2 _ _) rfl rfl rfl ⟨rfl, fr_two (f0.same (f1.same f2)) (Nat.le_refl _) _ _⟩
  by_cases h3 : op = 3
  · subst h3
    have k1 := F.mul_any a b
    rw [if_neg (by decide), if_neg (by decide), if_pos rfl]
    generalize F.resS (floatBits .mul .f64 a.toNat b.toNat) = R at k1 ⊢
    have k2 := float_any R
    have hb0 : Hidden ((w.alloc zo).heap[w.heap.size]? = some zo) := alloc_new _ _
    have f0 := Fr.alloc (fun _ => False) w zo
    clear ha hb
    go_enter Tryz.func187, Tryz.ntmps187
    go_wp2_with (first | (go_at_call 198; refine (k1 _).mono ?_; rintro r w1 ⟨rfl, hg1⟩; have f1 := grown_fr hg1) | (go_at_call 170; refine (k2 _).mono ?_; rintro r w2 ⟨rfl, f2⟩; have q2 := (f1.same f2).heap hb0 (fun f => f); obtain ⟨c0, c1, z0, z1⟩ := box2 q2))
    exact post_v1 (set_two q2 _ _) rfl rfl rfl ⟨rfl, fr_two (f0.same (f1.same f2)) (Nat.le_refl _) _ _⟩
  by_cases h4 : op = 4
  · subst h4
    have k1 := F.div_any a b
    rw [if_neg (by decide), if_neg (by decide), if_neg (by decide), if_pos rfl]
    generalize F.resS (floatBits .quo .f64 a.toNat b.toNat) = R at k1 ⊢
    have k2 := float_any R
    have hb0 : Hidden ((w.alloc zo).heap[w.heap.size]? = some zo) := alloc_new _ _
    have f0 := Fr.alloc (fun _ => False) w zo
    clear ha hb
    go_enter Tryz.func187, Tryz.ntmps187
    go_wp2_with (first | (go_at_call 199; refine (k1 _).mono ?_; rintro r w1 ⟨rfl, hg1⟩; have f1 := grown_fr hg1) | (go_at_call 170; refine (k2 _).mono ?_; rintro r w2 ⟨rfl, f2⟩; have q2 := (f1.same f2).heap hb0 (fun f => f); obtain ⟨c0, c1, z0, z1⟩ := box2 q2))
    exact post_v1 (set_two q2 _ _) rfl rfl rfl ⟨rfl, fr_two (f0.same (f1.same f2)) (Nat.le_refl _) _ _⟩
  rw [if_neg h1, if_neg h2, if_neg h3, if_neg h4]
  have k2 := floatsAre_any op a b ha hb
  have k3 := truth_any (fcmpF op a b)
  generalize truthF (fcmpF op a b) = R at k3 ⊢
  obtain ⟨t, v⟩ := R
  dsimp only [vv] at k3 ⊢
  have hb0 : Hidden ((w.alloc zo).heap[w.heap.size]? = some zo) := alloc_new _ _
  have f0 := Fr.alloc (fun _ => False) w zo
  have b1 : (op == 1) = false := by simp [h1]
  have b2 : (op == 2) = false := by simp [h2]
  have b3 : (op == 3) = false := by simp [h3]
  have b4 : (op == 4) = false := by simp [h4]
  clear ha hb h1 h2 h3 h4
  go_enter Tryz.func187, Tryz.ntmps187
  go_wp2_with (first | (go_at_call 200; refine (k2 _).mono ?_; rintro r w1 ⟨rfl, hw⟩; rw [hw]; clear hw) | (go_at_call 167; refine (k3 _).mono ?_; rintro r w2 ⟨rfl, f2⟩; have q2 := f2.heap hb0 (fun f => f); obtain ⟨c0, c1, z0, z1⟩ := box2 q2))
  exact post_v1 (set_two q2 _ _) rfl rfl rfl ⟨rfl, fr_two (f0.same f2) (Nat.le_refl _) _ _⟩
set_option maxRecDepth 20000 in
theorem ofBools_any (op : Int) (a b : Bool) (w : World) : Calls Tryz.prog 188 #[ci op, .bool a, .bool b] w fun r w' => r = .returned (vv (boolsF op a b)) ∧ Fr (fun _ => False) w w' := by
  unfold boolsF
  by_cases h6 : op = 6
  · subst h6
    have k2 := truth_any (a == b)
    rw [if_pos rfl]
    generalize truthF (a == b) = R at k2 ⊢
    obtain ⟨t, v⟩ := R
    dsimp only [vv] at k2 ⊢
    have hb0 : Hidden ((w.alloc zo).heap[w.heap.size]? = some zo) := alloc_new _ _
    have f0 := Fr.alloc (fun _ => False) w zo
    cases a <;> cases b
    all_goals
      go_enter Tryz.func188, Tryz.ntmps188
      go_wp2_with (go_at_call 167; refine (k2 _).mono ?_; rintro r w2 ⟨rfl, f2⟩; have q2 := f2.heap hb0 (fun f => f); obtain ⟨c0, c1, z0, z1⟩ := box2 q2)
      exact post_v1 (set_two q2 _ _) rfl rfl rfl ⟨rfl, fr_two (f0.same f2) (Nat.le_refl _) _ _⟩
  by_cases h7 : op = 7
  · subst h7
    have k2 := truth_any (a != b)
    rw [if_neg (by decide), if_pos rfl]
    generalize truthF (a != b) = R at k2 ⊢
    obtain ⟨t, v⟩ := R
    dsimp only [vv] at k2 ⊢
    have hb0 : Hidden ((w.alloc zo).heap[w.heap.size]? = some zo) := alloc_new _ _
    have f0 := Fr.alloc (fun _ => False) w zo
    cases a <;> cases b
    all_goals
      go_enter Tryz.func188, Tryz.ntmps188
      go_wp2_with (go_at_call 167; refine (k2 _).mono ?_; rintro r w2 ⟨rfl, f2⟩; have q2 := f2.heap hb0 (fun f => f); obtain ⟨c0, c1, z0, z1⟩ := box2 q2)
      exact post_v1 (set_two q2 _ _) rfl rfl rfl ⟨rfl, fr_two (f0.same f2) (Nat.le_refl _) _ _⟩
  by_cases h12 : op = 12
  · subst h12
    have k2 := truth_any (a && b)
    rw [if_neg (by decide), if_neg (by decide), if_pos rfl]
    generalize truthF (a && b) = R at k2 ⊢
    obtain ⟨t, v⟩ := R
    dsimp only [vv] at k2 ⊢
    have hb0 : Hidden ((w.alloc zo).heap[w.heap.size]? = some zo) := alloc_new _ _
    have f0 := Fr.alloc (fun _ => False) w zo
    cases a <;> cases b
    all_goals
      go_enter Tryz.func188, Tryz.ntmps188
      go_wp2_with (go_at_call 167; refine (k2 _).mono ?_; rintro r w2 ⟨rfl, f2⟩; have q2 := f2.heap hb0 (fun f => f); obtain ⟨c0, c1, z0, z1⟩ := box2 q2)
      exact post_v1 (set_two q2 _ _) rfl rfl rfl ⟨rfl, fr_two (f0.same f2) (Nat.le_refl _) _ _⟩
  rw [if_neg h6, if_neg h7, if_neg h12]
  have k2 := truth_any (a || b)
  generalize truthF (a || b) = R at k2 ⊢
  obtain ⟨t, v⟩ := R
  dsimp only [vv] at k2 ⊢
  have hb0 : Hidden ((w.alloc zo).heap[w.heap.size]? = some zo) := alloc_new _ _
  have f0 := Fr.alloc (fun _ => False) w zo
  have b6 : (op == 6) = false := by simp [h6]
  have b7 : (op == 7) = false := by simp [h7]
  have b12 : (op == 12) = false := by simp [h12]
  clear h6 h7 h12
  cases a <;> cases b
  all_goals
    go_enter Tryz.func188, Tryz.ntmps188
    go_wp2_with (go_at_call 167; refine (k2 _).mono ?_; rintro r w2 ⟨rfl, f2⟩; have q2 := f2.heap hb0 (fun f => f); obtain ⟨c0, c1, z0, z1⟩ := box2 q2)
    exact post_v1 (set_two q2 _ _) rfl rfl rfl ⟨rfl, fr_two (f0.same f2) (Nat.le_refl _) _ _⟩
end Go.Proofs.YtakkiipkmogagaaGreat.Fo

namespace Go.Proofs.YtakkiipkmogagaaGreat.Fo
open Go.RowKit
set_option linter.unusedSimpArgs false
set_option linter.unusedVariables false

set_option maxRecDepth 20000 in
set_option maxHeartbeats 2000000 in
theorem bin_any (op : Int) (a b : Vl) (ha : U64 a.2) (hb : U64 b.2) (w : World) : Calls Tryz.prog 173 #[ci op, vv a, vv b] w fun r w' => r = .returned (.tuple #[vv (binF op a b).1, ci (binF op a b).2]) ∧ Fr (fun _ => False) w w' := by
  obtain ⟨ta, va⟩ := a
  obtain ⟨tb, vb⟩ := b
  dsimp only [vv] at ha hb ⊢
  have hA : Hidden ((((w.alloc (zb (ci ta) (.int .u64 va))).alloc (zb (ci tb) (.int .u64 vb))).alloc zo).heap[w.heap.size]? = some (zb (ci ta) (.int .u64 va))) := (alloc_old _ _ _ (by simp; omega)).trans ((alloc_old _ _ _ (by simp)).trans (alloc_new _ _))
  have hB : Hidden ((((w.alloc (zb (ci ta) (.int .u64 va))).alloc (zb (ci tb) (.int .u64 vb))).alloc zo).heap[w.heap.size + 1]? = some (zb (ci tb) (.int .u64 vb))) := (alloc_old _ _ _ (by simp)).trans (alloc_at _ _ _ (by simp))
  have hC : Hidden ((((w.alloc (zb (ci ta) (.int .u64 va))).alloc (zb (ci tb) (.int .u64 vb))).alloc zo).heap[w.heap.size + 2]? = some zo) := alloc_at _ _ _ (by simp)
  have f0 : Fr (fun _ => False) w (((w.alloc (zb (ci ta) (.int .u64 va))).alloc (zb (ci tb) (.int .u64 vb))).alloc zo) := ((Fr.alloc _ _ _).same (Fr.alloc _ _ _)).same (Fr.alloc _ _ _)
  have kB := Ty.binary_any op ta tb
  have kRa := Ty.rightv_any ta va ha
  have kRb := Ty.rightv_any tb vb hb
  have no := @binF_no op (ta, va) (tb, vb)
  have yes := @binF_yes op (ta, va) (tb, vb)
  dsimp only at no yes
  generalize binF op (ta, va) (tb, vb) = R0 at *
  generalize Ty.binS op ta tb = P at *
  obtain ⟨p, e⟩ := P
  dsimp only at kB no yes
  generalize Ty.rightV ta va = A at *
  generalize Ty.rightV tb vb = B at *
  by_cases he : e = 0
  · subst he
    cases A
    · rw [no (by simp)]
      clear no yes
      clear ha hb
      go_enter Tryz.func173, Tryz.ntmps173
      go_wp2_with fail
      go_at_call 185
      refine (kB _).mono ?_
      rintro r w1 ⟨rfl, g1⟩
      have f1 := g1
      have qa1 := f1.heap hA (fun f => f)
      have qb1 := f1.heap hB (fun f => f)
      have qc1 := f1.heap hC (fun f => f)
      obtain ⟨a10, a11, a12, a13⟩ := box2 qa1
      obtain ⟨b10, b11, b12, b13⟩ := box2 qb1
      obtain ⟨c10, c11, c12, c13⟩ := box2 qc1
      go_wp2_with fail
      go_at_call 100
      refine (kRa _).mono ?_
      rintro r w2 ⟨rfl, g2⟩
      have f2 := f1.same g2
      have qa2 := f2.heap hA (fun f => f)
      have qb2 := f2.heap hB (fun f => f)
      have qc2 := f2.heap hC (fun f => f)
      obtain ⟨a20, a21, a22, a23⟩ := box2 qa2
      obtain ⟨b20, b21, b22, b23⟩ := box2 qb2
      obtain ⟨c20, c21, c22, c23⟩ := box2 qc2
      go_wp2_with fail
      exact post_v (set_two qc2 _ _) rfl rfl rfl ⟨rfl, fr_two (f0.same f2) (by omega) _ _⟩
    cases B
    · rw [no (by simp)]
      clear no yes
      clear ha hb
      go_enter Tryz.func173, Tryz.ntmps173
      go_wp2_with fail
      go_at_call 185
      refine (kB _).mono ?_
      rintro r w1 ⟨rfl, g1⟩
      have f1 := g1
      have qa1 := f1.heap hA (fun f => f)
      have qb1 := f1.heap hB (fun f => f)
      have qc1 := f1.heap hC (fun f => f)
      obtain ⟨a10, a11, a12, a13⟩ := box2 qa1
      obtain ⟨b10, b11, b12, b13⟩ := box2 qb1
      obtain ⟨c10, c11, c12, c13⟩ := box2 qc1
      go_wp2_with fail
      go_at_call 100
      refine (kRa _).mono ?_
      rintro r w2 ⟨rfl, g2⟩
      have f2 := f1.same g2
      have qa2 := f2.heap hA (fun f => f)
      have qb2 := f2.heap hB (fun f => f)
      have qc2 := f2.heap hC (fun f => f)
      obtain ⟨a20, a21, a22, a23⟩ := box2 qa2
      obtain ⟨b20, b21, b22, b23⟩ := box2 qb2
      obtain ⟨c20, c21, c22, c23⟩ := box2 qc2
      go_wp2_with fail
      go_at_call 100
      refine (kRb _).mono ?_
      rintro r w3 ⟨rfl, g3⟩
      have f3 := f2.same g3
      have qa3 := f3.heap hA (fun f => f)
      have qb3 := f3.heap hB (fun f => f)
      have qc3 := f3.heap hC (fun f => f)
      obtain ⟨a30, a31, a32, a33⟩ := box2 qa3
      obtain ⟨b30, b31, b32, b33⟩ := box2 qb3
      obtain ⟨c30, c31, c32, c33⟩ := box2 qc3
      go_wp2_with fail
      exact post_v (set_two qc3 _ _) rfl rfl rfl ⟨rfl, fr_two (f0.same f3) (by omega) _ _⟩
    rw [yes rfl rfl rfl]
    clear no yes
    by_cases h1 : ta = 1
    · subst h1
      rw [if_pos rfl]
      have kI := ofInts_any op (wrap64 va) (wrap64 vb) (wrapI _) (wrapI _)
      generalize intsF op (wrap64 va) (wrap64 vb) = R at kI ⊢
      obtain ⟨⟨t, v⟩, q⟩ := R
      dsimp only [vv] at kI ⊢
      clear ha hb
      go_enter Tryz.func173, Tryz.ntmps173
      go_wp2_with fail
      go_at_call 185
      refine (kB _).mono ?_
      rintro r w1 ⟨rfl, g1⟩
      have f1 := g1
      have qa1 := f1.heap hA (fun f => f)
      have qb1 := f1.heap hB (fun f => f)
      have qc1 := f1.heap hC (fun f => f)
      obtain ⟨a10, a11, a12, a13⟩ := box2 qa1
      obtain ⟨b10, b11, b12, b13⟩ := box2 qb1
      obtain ⟨c10, c11, c12, c13⟩ := box2 qc1
      go_wp2_with fail
      go_at_call 100
      refine (kRa _).mono ?_
      rintro r w2 ⟨rfl, g2⟩
      have f2 := f1.same g2
      have qa2 := f2.heap hA (fun f => f)
      have qb2 := f2.heap hB (fun f => f)
      have qc2 := f2.heap hC (fun f => f)
      obtain ⟨a20, a21, a22, a23⟩ := box2 qa2
      obtain ⟨b20, b21, b22, b23⟩ := box2 qb2
      obtain ⟨c20, c21, c22, c23⟩ := box2 qc2
      go_wp2_with fail
      go_at_call 100
      refine (kRb _).mono ?_
      rintro r w3 ⟨rfl, g3⟩
      have f3 := f2.same g3
      have qa3 := f3.heap hA (fun f => f)
      have qb3 := f3.heap hB (fun f => f)
      have qc3 := f3.heap hC (fun f => f)
      obtain ⟨a30, a31, a32, a33⟩ := box2 qa3
      obtain ⟨b30, b31, b32, b33⟩ := box2 qb3
      obtain ⟨c30, c31, c32, c33⟩ := box2 qc3
      go_wp2_with fail
      go_at_call 186
      refine (kI _).mono ?_
      rintro r w4 ⟨rfl, g4⟩
      have f4 := f3.same g4
      have qa4 := f4.heap hA (fun f => f)
      have qb4 := f4.heap hB (fun f => f)
      have qc4 := f4.heap hC (fun f => f)
      obtain ⟨a40, a41, a42, a43⟩ := box2 qa4
      obtain ⟨b40, b41, b42, b43⟩ := box2 qb4
      obtain ⟨c40, c41, c42, c43⟩ := box2 qc4
      go_wp2_with fail
      exact post_v (set_two qc4 _ _) rfl rfl rfl ⟨rfl, fr_two (f0.same f4) (by omega) _ _⟩
    rw [if_neg h1]
    have n1 : (ta == 1) = false := by simp [h1]
    clear h1
    by_cases h2 : ta = 2
    · subst h2
      rw [if_pos rfl]
      have kI := ofFloats_any op va vb ha hb
      generalize fltsF op va vb = R at kI ⊢
      obtain ⟨t, v⟩ := R
      dsimp only [vv] at kI ⊢
      clear ha hb n1
      go_enter Tryz.func173, Tryz.ntmps173
      go_wp2_with fail
      go_at_call 185
      refine (kB _).mono ?_
      rintro r w1 ⟨rfl, g1⟩
      have f1 := g1
      have qa1 := f1.heap hA (fun f => f)
      have qb1 := f1.heap hB (fun f => f)
      have qc1 := f1.heap hC (fun f => f)
      obtain ⟨a10, a11, a12, a13⟩ := box2 qa1
      obtain ⟨b10, b11, b12, b13⟩ := box2 qb1
      obtain ⟨c10, c11, c12, c13⟩ := box2 qc1
      go_wp2_with fail
      go_at_call 100
      refine (kRa _).mono ?_
      rintro r w2 ⟨rfl, g2⟩
      have f2 := f1.same g2
      have qa2 := f2.heap hA (fun f => f)
      have qb2 := f2.heap hB (fun f => f)
      have qc2 := f2.heap hC (fun f => f)
      obtain ⟨a20, a21, a22, a23⟩ := box2 qa2
      obtain ⟨b20, b21, b22, b23⟩ := box2 qb2
      obtain ⟨c20, c21, c22, c23⟩ := box2 qc2
      go_wp2_with fail
      go_at_call 100
      refine (kRb _).mono ?_
      rintro r w3 ⟨rfl, g3⟩
      have f3 := f2.same g3
      have qa3 := f3.heap hA (fun f => f)
      have qb3 := f3.heap hB (fun f => f)
      have qc3 := f3.heap hC (fun f => f)
      obtain ⟨a30, a31, a32, a33⟩ := box2 qa3
      obtain ⟨b30, b31, b32, b33⟩ := box2 qb3
      obtain ⟨c30, c31, c32, c33⟩ := box2 qc3
      go_wp2_with fail
      go_at_call 187
      refine (kI _).mono ?_
      rintro r w4 ⟨rfl, g4⟩
      have f4 := f3.same g4
      have qa4 := f4.heap hA (fun f => f)
      have qb4 := f4.heap hB (fun f => f)
      have qc4 := f4.heap hC (fun f => f)
      obtain ⟨a40, a41, a42, a43⟩ := box2 qa4
      obtain ⟨b40, b41, b42, b43⟩ := box2 qb4
      obtain ⟨c40, c41, c42, c43⟩ := box2 qc4
      go_wp2_with fail
      exact post_v (set_two qc4 _ _) rfl rfl rfl ⟨rfl, fr_two (f0.same f4) (by omega) _ _⟩
    rw [if_neg h2]
    have n2 : (ta == 2) = false := by simp [h2]
    clear h2
    have kI := ofBools_any op (va == 1) (vb == 1)
    generalize boolsF op (va == 1) (vb == 1) = R at kI ⊢
    obtain ⟨t, v⟩ := R
    dsimp only [vv] at kI ⊢
    clear ha hb
    go_enter Tryz.func173, Tryz.ntmps173
    go_wp2_with fail
    go_at_call 185
    refine (kB _).mono ?_
    rintro r w1 ⟨rfl, g1⟩
    have f1 := g1
    have qa1 := f1.heap hA (fun f => f)
    have qb1 := f1.heap hB (fun f => f)
    have qc1 := f1.heap hC (fun f => f)
    obtain ⟨a10, a11, a12, a13⟩ := box2 qa1
    obtain ⟨b10, b11, b12, b13⟩ := box2 qb1
    obtain ⟨c10, c11, c12, c13⟩ := box2 qc1
    go_wp2_with fail
    go_at_call 100
    refine (kRa _).mono ?_
    rintro r w2 ⟨rfl, g2⟩
    have f2 := f1.same g2
    have qa2 := f2.heap hA (fun f => f)
    have qb2 := f2.heap hB (fun f => f)
    have qc2 := f2.heap hC (fun f => f)
    obtain ⟨a20, a21, a22, a23⟩ := box2 qa2
    obtain ⟨b20, b21, b22, b23⟩ := box2 qb2
    obtain ⟨c20, c21, c22, c23⟩ := box2 qc2
    go_wp2_with fail
    go_at_call 100
    refine (kRb _).mono ?_
    rintro r w3 ⟨rfl, g3⟩
    have f3 := f2.same g3
    have qa3 := f3.heap hA (fun f => f)
    have qb3 := f3.heap hB (fun f => f)
    have qc3 := f3.heap hC (fun f => f)
    obtain ⟨a30, a31, a32, a33⟩ := box2 qa3
    obtain ⟨b30, b31, b32, b33⟩ := box2 qb3
    obtain ⟨c30, c31, c32, c33⟩ := box2 qc3
    go_wp2_with fail
    go_at_call 188
    refine (kI _).mono ?_
    rintro r w4 ⟨rfl, g4⟩
    have f4 := f3.same g4
    have qa4 := f4.heap hA (fun f => f)
    have qb4 := f4.heap hB (fun f => f)
    have qc4 := f4.heap hC (fun f => f)
    obtain ⟨a40, a41, a42, a43⟩ := box2 qa4
    obtain ⟨b40, b41, b42, b43⟩ := box2 qb4
    obtain ⟨c40, c41, c42, c43⟩ := box2 qc4
    go_wp2_with fail
    exact post_v (set_two qc4 _ _) rfl rfl rfl ⟨rfl, fr_two (f0.same f4) (by omega) _ _⟩
  · rw [no (Or.inl he)]
    have he' : (e != 0) = true := by simp [he]
    clear ha hb he no yes
    go_enter Tryz.func173, Tryz.ntmps173
    go_wp2_with fail
    go_at_call 185
    refine (kB _).mono ?_
    rintro r w1 ⟨rfl, g1⟩
    have f1 := g1
    have qa1 := f1.heap hA (fun f => f)
    have qb1 := f1.heap hB (fun f => f)
    have qc1 := f1.heap hC (fun f => f)
    obtain ⟨a10, a11, a12, a13⟩ := box2 qa1
    obtain ⟨b10, b11, b12, b13⟩ := box2 qb1
    obtain ⟨c10, c11, c12, c13⟩ := box2 qc1
    go_wp2_with fail
    exact post_v (set_two qc1 _ _) rfl rfl rfl ⟨rfl, fr_two (f0.same f1) (by omega) _ _⟩
set_option maxRecDepth 20000 in
theorem negative_any (ta va : Int) (ha : U64 va) (w : World) : Calls Tryz.prog 166 #[vv (ta, va)] w fun r w' => r = .returned (.tuple #[vv (if ta = 2 then ((2, F.Fl.negS va), 0) else wholeF (Z.fitV (-(wrap64 va))) (Z.fitE (-(wrap64 va)))).1, ci (if ta = 2 then (((2, F.Fl.negS va) : Vl), (0 : Int)) else wholeF (Z.fitV (-(wrap64 va))) (Z.fitE (-(wrap64 va)))).2]) ∧ Fr (fun _ => False) w w' := by
  dsimp only [vv]
  have hA : Hidden (((w.alloc (zb (ci ta) (.int .u64 va))).alloc zo).heap[w.heap.size]? = some (zb (ci ta) (.int .u64 va))) := (alloc_old _ _ _ (by simp)).trans (alloc_new _ _)
  have hC : Hidden (((w.alloc (zb (ci ta) (.int .u64 va))).alloc zo).heap[w.heap.size + 1]? = some zo) := alloc_at _ _ _ (by simp)
  have f0 : Fr (fun _ => False) w ((w.alloc (zb (ci ta) (.int .u64 va))).alloc zo) := (Fr.alloc _ _ _).same (Fr.alloc _ _ _)
  by_cases h2 : ta = 2
  · subst h2
    rw [if_pos rfl]
    have k1 := F.neg_any va ⟨ha.1, ha.2⟩
    have k2 := float_any (F.Fl.negS va)
    generalize F.Fl.negS va = R at k1 k2 ⊢
    dsimp only [vv] at k2 ⊢
    clear ha
    go_enter Tryz.func166, Tryz.ntmps166
    go_wp2_with fail
    go_at_call 181
    refine (k1 _).mono ?_
    rintro r w1 ⟨rfl, hw1⟩
    rw [← hw1]
    clear hw1
    go_wp2_with fail
    go_at_call 170
    refine (k2 _).mono ?_
    rintro r w2 ⟨rfl, g2⟩
    have f2 := g2
    have qa2 := f2.heap hA (fun f => f)
    have qc2 := f2.heap hC (fun f => f)
    obtain ⟨a20, a21, a22, a23⟩ := box2 qa2
    obtain ⟨c20, c21, c22, c23⟩ := box2 qc2
    go_wp2_with fail
    exact post_v (set_two qc2 _ _) rfl rfl rfl ⟨rfl, fr_two (f0.same f2) (by omega) _ _⟩
  · rw [if_neg h2]
    have n2 : (ta == 2) = false := by simp [h2]
    have k1 := Z.neg_any (wrap64 va) (wrapI _)
    have k2 := whole_any (Z.fitV (-(wrap64 va))) (Z.fitE (-(wrap64 va)))
    generalize wholeF (Z.fitV (-(wrap64 va))) (Z.fitE (-(wrap64 va))) = R at k2 ⊢
    obtain ⟨⟨t, v⟩, q⟩ := R
    dsimp only [vv] at k2 ⊢
    clear ha h2
    go_enter Tryz.func166, Tryz.ntmps166
    go_wp2_with fail
    go_at_call 182
    refine (k1 _).mono ?_
    rintro r w1 ⟨rfl, hw1⟩
    rw [← hw1]
    clear hw1
    go_wp2_with fail
    go_at_call 168
    refine (k2 _).mono ?_
    rintro r w2 ⟨rfl, g2⟩
    have f2 := g2
    have qa2 := f2.heap hA (fun f => f)
    have qc2 := f2.heap hC (fun f => f)
    obtain ⟨a20, a21, a22, a23⟩ := box2 qa2
    obtain ⟨c20, c21, c22, c23⟩ := box2 qc2
    go_wp2_with fail
    exact post_v (set_two qc2 _ _) rfl rfl rfl ⟨rfl, fr_two (f0.same f2) (by omega) _ _⟩
set_option maxRecDepth 20000 in
set_option maxHeartbeats 2000000 in
theorem un_any (op : Int) (a : Vl) (ha : U64 a.2) (w : World) : Calls Tryz.prog 152 #[ci op, vv a] w fun r w' => r = .returned (.tuple #[vv (unF op a).1, ci (unF op a).2]) ∧ Fr (fun _ => False) w w' := by
  obtain ⟨ta, va⟩ := a
  dsimp only [vv] at ha ⊢
  have hA : Hidden (((w.alloc (zb (ci ta) (.int .u64 va))).alloc zo).heap[w.heap.size]? = some (zb (ci ta) (.int .u64 va))) := (alloc_old _ _ _ (by simp)).trans (alloc_new _ _)
  have hC : Hidden (((w.alloc (zb (ci ta) (.int .u64 va))).alloc zo).heap[w.heap.size + 1]? = some zo) := alloc_at _ _ _ (by simp)
  have f0 : Fr (fun _ => False) w ((w.alloc (zb (ci ta) (.int .u64 va))).alloc zo) := (Fr.alloc _ _ _).same (Fr.alloc _ _ _)
  have kB := Ty.unary_any op ta
  have kRa := Ty.rightv_any ta va ha
  have no := @unF_no op (ta, va)
  have yes := @unF_yes op (ta, va)
  dsimp only at no yes
  generalize unF op (ta, va) = R0 at *
  generalize Ty.unS op ta = P at *
  obtain ⟨p, e⟩ := P
  dsimp only at kB no yes
  generalize Ty.rightV ta va = A at *
  by_cases he : e = 0
  · subst he
    cases A
    · rw [no (by simp)]
      clear ha no yes
      go_enter Tryz.func152, Tryz.ntmps152
      go_wp2_with fail
      go_at_call 165
      refine (kB _).mono ?_
      rintro r w1 ⟨rfl, g1⟩
      have f1 := g1
      have qa1 := f1.heap hA (fun f => f)
      have qc1 := f1.heap hC (fun f => f)
      obtain ⟨a10, a11, a12, a13⟩ := box2 qa1
      obtain ⟨c10, c11, c12, c13⟩ := box2 qc1
      go_wp2_with fail
      go_at_call 100
      refine (kRa _).mono ?_
      rintro r w2 ⟨rfl, g2⟩
      have f2 := f1.same g2
      have qa2 := f2.heap hA (fun f => f)
      have qc2 := f2.heap hC (fun f => f)
      obtain ⟨a20, a21, a22, a23⟩ := box2 qa2
      obtain ⟨c20, c21, c22, c23⟩ := box2 qc2
      go_wp2_with fail
      exact post_v (set_two qc2 _ _) rfl rfl rfl ⟨rfl, fr_two (f0.same f2) (by omega) _ _⟩
    rw [yes rfl rfl]
    clear no yes
    by_cases h1 : op = 1
    · subst h1
      rw [if_pos rfl]
      have kI := negative_any ta va ha
      generalize (if ta = 2 then (((2, F.Fl.negS va) : Vl), (0 : Int)) else wholeF (Z.fitV (-(wrap64 va))) (Z.fitE (-(wrap64 va)))) = R at kI ⊢
      obtain ⟨⟨t, v⟩, q⟩ := R
      dsimp only [vv] at kI ⊢
      clear ha
      go_enter Tryz.func152, Tryz.ntmps152
      go_wp2_with fail
      go_at_call 165
      refine (kB _).mono ?_
      rintro r w1 ⟨rfl, g1⟩
      have f1 := g1
      have qa1 := f1.heap hA (fun f => f)
      have qc1 := f1.heap hC (fun f => f)
      obtain ⟨a10, a11, a12, a13⟩ := box2 qa1
      obtain ⟨c10, c11, c12, c13⟩ := box2 qc1
      go_wp2_with fail
      go_at_call 100
      refine (kRa _).mono ?_
      rintro r w2 ⟨rfl, g2⟩
      have f2 := f1.same g2
      have qa2 := f2.heap hA (fun f => f)
      have qc2 := f2.heap hC (fun f => f)
      obtain ⟨a20, a21, a22, a23⟩ := box2 qa2
      obtain ⟨c20, c21, c22, c23⟩ := box2 qc2
      go_wp2_with fail
      go_at_call 166
      refine (kI _).mono ?_
      rintro r w3 ⟨rfl, g3⟩
      have f3 := f2.same g3
      have qa3 := f3.heap hA (fun f => f)
      have qc3 := f3.heap hC (fun f => f)
      obtain ⟨a30, a31, a32, a33⟩ := box2 qa3
      obtain ⟨c30, c31, c32, c33⟩ := box2 qc3
      go_wp2_with fail
      exact post_v (set_two qc3 _ _) rfl rfl rfl ⟨rfl, fr_two (f0.same f3) (by omega) _ _⟩
    rw [if_neg h1]
    have n1 : (op == 1) = false := by simp [h1]
    clear h1
    by_cases h2 : op = 2
    · subst h2
      rw [if_pos rfl]
      have kI := truth_any (va == 0)
      generalize truthF (va == 0) = R at kI ⊢
      obtain ⟨t, v⟩ := R
      dsimp only [vv] at kI ⊢
      clear ha n1
      go_enter Tryz.func152, Tryz.ntmps152
      go_wp2_with fail
      go_at_call 165
      refine (kB _).mono ?_
      rintro r w1 ⟨rfl, g1⟩
      have f1 := g1
      have qa1 := f1.heap hA (fun f => f)
      have qc1 := f1.heap hC (fun f => f)
      obtain ⟨a10, a11, a12, a13⟩ := box2 qa1
      obtain ⟨c10, c11, c12, c13⟩ := box2 qc1
      go_wp2_with fail
      go_at_call 100
      refine (kRa _).mono ?_
      rintro r w2 ⟨rfl, g2⟩
      have f2 := f1.same g2
      have qa2 := f2.heap hA (fun f => f)
      have qc2 := f2.heap hC (fun f => f)
      obtain ⟨a20, a21, a22, a23⟩ := box2 qa2
      obtain ⟨c20, c21, c22, c23⟩ := box2 qc2
      go_wp2_with fail
      go_at_call 167
      refine (kI _).mono ?_
      rintro r w3 ⟨rfl, g3⟩
      have f3 := f2.same g3
      have qa3 := f3.heap hA (fun f => f)
      have qc3 := f3.heap hC (fun f => f)
      obtain ⟨a30, a31, a32, a33⟩ := box2 qa3
      obtain ⟨c30, c31, c32, c33⟩ := box2 qc3
      go_wp2_with fail
      exact post_v (set_two qc3 _ _) rfl rfl rfl ⟨rfl, fr_two (f0.same f3) (by omega) _ _⟩
    rw [if_neg h2]
    have n2 : (op == 2) = false := by simp [h2]
    clear h2
    by_cases h3 : op = 3
    · subst h3
      rw [if_pos rfl]
      have kI := F.toInt_any va ⟨ha.1, ha.2⟩
      have kW := whole_any (F.toI va) (F.toE va)
      generalize wholeF (F.toI va) (F.toE va) = R at kW ⊢
      obtain ⟨⟨t, v⟩, q⟩ := R
      dsimp only [vv] at kW ⊢
      clear ha n1 n2
      go_enter Tryz.func152, Tryz.ntmps152
      go_wp2_with fail
      go_at_call 165
      refine (kB _).mono ?_
      rintro r w1 ⟨rfl, g1⟩
      have f1 := g1
      have qa1 := f1.heap hA (fun f => f)
      have qc1 := f1.heap hC (fun f => f)
      obtain ⟨a10, a11, a12, a13⟩ := box2 qa1
      obtain ⟨c10, c11, c12, c13⟩ := box2 qc1
      go_wp2_with fail
      go_at_call 100
      refine (kRa _).mono ?_
      rintro r w2 ⟨rfl, g2⟩
      have f2 := f1.same g2
      have qa2 := f2.heap hA (fun f => f)
      have qc2 := f2.heap hC (fun f => f)
      obtain ⟨a20, a21, a22, a23⟩ := box2 qa2
      obtain ⟨c20, c21, c22, c23⟩ := box2 qc2
      go_wp2_with fail
      go_at_call 169
      refine (kI _).mono ?_
      rintro r w3 ⟨rfl, hw3⟩
      rw [← hw3]
      clear hw3
      go_wp2_with fail
      go_at_call 168
      refine (kW _).mono ?_
      rintro r w4 ⟨rfl, g4⟩
      have f4 := f2.same g4
      have qa4 := f4.heap hA (fun f => f)
      have qc4 := f4.heap hC (fun f => f)
      obtain ⟨a40, a41, a42, a43⟩ := box2 qa4
      obtain ⟨c40, c41, c42, c43⟩ := box2 qc4
      go_wp2_with fail
      exact post_v (set_two qc4 _ _) rfl rfl rfl ⟨rfl, fr_two (f0.same f4) (by omega) _ _⟩
    rw [if_neg h3]
    have n3 : (op == 3) = false := by simp [h3]
    clear h3
    have kI := F.fromInt_any (wrap64 va)
    have kW := float_any ((floatOfInt .f64 (wrap64 va) : Nat) : Int)
    generalize ((floatOfInt .f64 (wrap64 va) : Nat) : Int) = R at kI kW ⊢
    dsimp only [vv] at kW ⊢
    clear ha
    go_enter Tryz.func152, Tryz.ntmps152
    go_wp2_with fail
    go_at_call 165
    refine (kB _).mono ?_
    rintro r w1 ⟨rfl, g1⟩
    have f1 := g1
    have qa1 := f1.heap hA (fun f => f)
    have qc1 := f1.heap hC (fun f => f)
    obtain ⟨a10, a11, a12, a13⟩ := box2 qa1
    obtain ⟨c10, c11, c12, c13⟩ := box2 qc1
    go_wp2_with fail
    go_at_call 100
    refine (kRa _).mono ?_
    rintro r w2 ⟨rfl, g2⟩
    have f2 := f1.same g2
    have qa2 := f2.heap hA (fun f => f)
    have qc2 := f2.heap hC (fun f => f)
    obtain ⟨a20, a21, a22, a23⟩ := box2 qa2
    obtain ⟨c20, c21, c22, c23⟩ := box2 qc2
    go_wp2_with fail
    go_at_call 171
    refine (kI _).mono ?_
    rintro r w3 ⟨rfl, hw3⟩
    rw [← hw3]
    clear hw3
    go_wp2_with fail
    go_at_call 170
    refine (kW _).mono ?_
    rintro r w4 ⟨rfl, g4⟩
    have f4 := f2.same g4
    have qa4 := f4.heap hA (fun f => f)
    have qc4 := f4.heap hC (fun f => f)
    obtain ⟨a40, a41, a42, a43⟩ := box2 qa4
    obtain ⟨c40, c41, c42, c43⟩ := box2 qc4
    go_wp2_with fail
    exact post_v (set_two qc4 _ _) rfl rfl rfl ⟨rfl, fr_two (f0.same f4) (by omega) _ _⟩
  · rw [no (Or.inl he)]
    have he' : (e != 0) = true := by simp [he]
    clear ha he no yes
    go_enter Tryz.func152, Tryz.ntmps152
    go_wp2_with fail
    go_at_call 165
    refine (kB _).mono ?_
    rintro r w1 ⟨rfl, g1⟩
    have f1 := g1
    have qa1 := f1.heap hA (fun f => f)
    have qc1 := f1.heap hC (fun f => f)
    obtain ⟨a10, a11, a12, a13⟩ := box2 qa1
    obtain ⟨c10, c11, c12, c13⟩ := box2 qc1
    go_wp2_with fail
    exact post_v (set_two qc1 _ _) rfl rfl rfl ⟨rfl, fr_two (f0.same f1) (by omega) _ _⟩
end Go.Proofs.YtakkiipkmogagaaGreat.Fo
