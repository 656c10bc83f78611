/- The program's operators of two, of one. -/
import Derived.Test.YtpjahcncknccdaaGreatFoA
import Derived.Test.YtpjahcncknccdaaGreatTyB2
namespace Go.Proofs.YtpjahcncknccdaaGreat.Fo
open Go.RowKit
set_option linter.unusedSimpArgs false
set_option linter.unusedVariables false

abbrev zo : Obj := zb (ci 0) (.int .u64 0)
theorem grown_fr {w w' : World} (h : Grown w w') : Fr (fun _ => False) w w' := Ty.fr_of_kept h.1 h.2.2
theorem ofInts_any (op a b : Int) (ha : I64 a) (hb : I64 b) (w : World) : Calls Tryz.prog 172 #[ci op, ci a, ci b] w fun r w' => r = .returned (.tuple #[vv (intsF op a b).1, ci (intsF op a b).2]) ∧ Fr (fun _ => False) w w' := by
  unfold intsF
  by_cases h1 : op = 1
  · subst h1
    have k1 := Z.add_any a b ha hb
    have k2 := whole_any (Z.fitV (a + b)) (Z.fitE (a + b))
    rw [if_pos rfl]
    generalize wholeF (Z.fitV (a + b)) (Z.fitE (a + b)) = R at k2 ⊢
    obtain ⟨⟨t, v⟩, q⟩ := R
    dsimp only [vv] at k2 ⊢
    have hb0 : Hidden ((w.alloc zo).heap[w.heap.size]? = some zo) := alloc_new _ _
    have f0 := Fr.alloc (fun _ => False) w zo
    clear ha hb
    go_enter Tryz.func172, Tryz.ntmps172
    go_wp2_with (first | (go_at_call 176; refine (k1 _).mono ?_; rintro r w1 ⟨rfl, hw⟩; rw [← hw]; clear hw) | (go_at_call 154; refine (k2 _).mono ?_; rintro r w2 ⟨rfl, f2⟩; have q2 := f2.heap hb0 (fun f => f); obtain ⟨c0, c1, z0, z1⟩ := box2 q2))
    exact post_v (set_two q2 _ _) rfl rfl rfl ⟨rfl, fr_two (f0.same f2) (Nat.le_refl _) _ _⟩
  by_cases h2 : op = 2
  · subst h2
    have k1 := Z.sub_any a b ha hb
    have k2 := whole_any (Z.fitV (a - b)) (Z.fitE (a - b))
    rw [if_neg (by decide), if_pos rfl]
    generalize wholeF (Z.fitV (a - b)) (Z.fitE (a - b)) = R at k2 ⊢
    obtain ⟨⟨t, v⟩, q⟩ := R
    dsimp only [vv] at k2 ⊢
    have hb0 : Hidden ((w.alloc zo).heap[w.heap.size]? = some zo) := alloc_new _ _
    have f0 := Fr.alloc (fun _ => False) w zo
    clear ha hb
    go_enter Tryz.func172, Tryz.ntmps172
    go_wp2_with (first | (go_at_call 175; refine (k1 _).mono ?_; rintro r w1 ⟨rfl, hw⟩; rw [← hw]; clear hw) | (go_at_call 154; refine (k2 _).mono ?_; rintro r w2 ⟨rfl, f2⟩; have q2 := f2.heap hb0 (fun f => f); obtain ⟨c0, c1, z0, z1⟩ := box2 q2))
    exact post_v (set_two q2 _ _) rfl rfl rfl ⟨rfl, fr_two (f0.same f2) (Nat.le_refl _) _ _⟩
  by_cases h3 : op = 3
  · subst h3
    have k1 := Z.mul_any a b ha hb
    have k2 := whole_any (Z.fitV (a * b)) (Z.fitE (a * b))
    rw [if_neg (by decide), if_neg (by decide), if_pos rfl]
    generalize wholeF (Z.fitV (a * b)) (Z.fitE (a * b)) = R at k2 ⊢
    obtain ⟨⟨t, v⟩, q⟩ := R
    dsimp only [vv] at k2 ⊢
    have hb0 : Hidden ((w.alloc zo).heap[w.heap.size]? = some zo) := alloc_new _ _
    have f0 := Fr.alloc (fun _ => False) w zo
    clear ha hb
    go_enter Tryz.func172, Tryz.ntmps172
    go_wp2_with (first | (go_at_call 177; refine (k1 _).mono ?_; rintro r w1 ⟨rfl, hw⟩; rw [← hw]; clear hw) | (go_at_call 154; refine (k2 _).mono ?_; rintro r w2 ⟨rfl, f2⟩; have q2 := f2.heap hb0 (fun f => f); obtain ⟨c0, c1, z0, z1⟩ := box2 q2))
    exact post_v (set_two q2 _ _) rfl rfl rfl ⟨rfl, fr_two (f0.same f2) (Nat.le_refl _) _ _⟩
  by_cases h4 : op = 4
  · subst h4
    have k1 := Z.div_any a b ha hb
    have k2 := whole_any (Z.divV a b) (Z.divE a b)
    rw [if_neg (by decide), if_neg (by decide), if_neg (by decide), if_pos rfl]
    generalize wholeF (Z.divV a b) (Z.divE a b) = R at k2 ⊢
    obtain ⟨⟨t, v⟩, q⟩ := R
    dsimp only [vv] at k2 ⊢
    have hb0 : Hidden ((w.alloc zo).heap[w.heap.size]? = some zo) := alloc_new _ _
    have f0 := Fr.alloc (fun _ => False) w zo
    clear ha hb
    go_enter Tryz.func172, Tryz.ntmps172
    go_wp2_with (first | (go_at_call 178; refine (k1 _).mono ?_; rintro r w1 ⟨rfl, hw⟩; rw [← hw]; clear hw) | (go_at_call 154; refine (k2 _).mono ?_; rintro r w2 ⟨rfl, f2⟩; have q2 := f2.heap hb0 (fun f => f); obtain ⟨c0, c1, z0, z1⟩ := box2 q2))
    exact post_v (set_two q2 _ _) rfl rfl rfl ⟨rfl, fr_two (f0.same f2) (Nat.le_refl _) _ _⟩
  by_cases h5 : op = 5
  · subst h5
    have k1 := Z.rem_any a b ha hb
    have k2 := whole_any (Z.remV a b) (Z.remE b)
    rw [if_neg (by decide), if_neg (by decide), if_neg (by decide), if_neg (by decide), if_pos rfl]
    generalize wholeF (Z.remV a b) (Z.remE b) = R at k2 ⊢
    obtain ⟨⟨t, v⟩, q⟩ := R
    dsimp only [vv] at k2 ⊢
    have hb0 : Hidden ((w.alloc zo).heap[w.heap.size]? = some zo) := alloc_new _ _
    have f0 := Fr.alloc (fun _ => False) w zo
    clear ha hb
    go_enter Tryz.func172, Tryz.ntmps172
    go_wp2_with (first | (go_at_call 179; refine (k1 _).mono ?_; rintro r w1 ⟨rfl, hw⟩; rw [← hw]; clear hw) | (go_at_call 154; refine (k2 _).mono ?_; rintro r w2 ⟨rfl, f2⟩; have q2 := f2.heap hb0 (fun f => f); obtain ⟨c0, c1, z0, z1⟩ := box2 q2))
    exact post_v (set_two q2 _ _) rfl rfl rfl ⟨rfl, fr_two (f0.same f2) (Nat.le_refl _) _ _⟩
  rw [if_neg h1, if_neg h2, if_neg h3, if_neg h4, if_neg h5]
  have k1 := Z.cmp_any a b
  have k2 := intsAre_any op (Z.cmpS a b)
  have k3 := truth_any (cmpF op (Z.cmpS a b))
  generalize truthF (cmpF op (Z.cmpS a b)) = R at k3 ⊢
  obtain ⟨t, v⟩ := R
  dsimp only [vv] at k3 ⊢
  have hb0 : Hidden ((w.alloc zo).heap[w.heap.size]? = some zo) := alloc_new _ _
  have f0 := Fr.alloc (fun _ => False) w zo
  have b1 : (op == 1) = false := by simp [h1]
  have b2 : (op == 2) = false := by simp [h2]
  have b3 : (op == 3) = false := by simp [h3]
  have b4 : (op == 4) = false := by simp [h4]
  have b5 : (op == 5) = false := by simp [h5]
  clear ha hb h1 h2 h3 h4 h5
  go_enter Tryz.func172, Tryz.ntmps172
  go_wp2_with (first | (go_at_call 181; refine (k1 _).mono ?_; rintro r w1 ⟨rfl, hw⟩; rw [← hw]; clear hw) | (go_at_call 180; refine (k2 _).mono ?_; rintro r w1 ⟨rfl, hw⟩; rw [hw]; clear hw) | (go_at_call 153; refine (k3 _).mono ?_; rintro r w2 ⟨rfl, f2⟩; have q2 := f2.heap hb0 (fun f => f); obtain ⟨c0, c1, z0, z1⟩ := box2 q2))
  exact post_v (set_two q2 _ _) rfl rfl rfl ⟨rfl, fr_two (f0.same f2) (Nat.le_refl _) _ _⟩
theorem floatsAre_any (op a b : Int) (ha : U64 a) (hb : U64 b) (w : World) : Calls Tryz.prog 186 #[ci op, .int .u64 a, .int .u64 b] w fun r w' => r = .returned (.bool (fcmpF op a b)) ∧ w' = w := by
  have e1 := F.equal_any a b ⟨ha.1, ha.2⟩ ⟨hb.1, hb.2⟩
  have l1 := F.less_any a b ⟨ha.1, ha.2⟩ ⟨hb.1, hb.2⟩
  have l2 := F.less_any b a ⟨hb.1, hb.2⟩ ⟨ha.1, ha.2⟩
  have q1 := F.lessEq_any a b ⟨ha.1, ha.2⟩ ⟨hb.1, hb.2⟩
  have q2 := F.lessEq_any b a ⟨hb.1, hb.2⟩ ⟨ha.1, ha.2⟩
  unfold fcmpF
  generalize F.Fl.eqS a b = E at *
  generalize F.Fl.eqS b a = E' at *
  generalize F.Fl.lessS a b = L at *
  generalize F.Fl.lessS b a = L' at *
  clear ha hb
  by_cases h6 : op = 6
  · subst h6
    clear l1 l2 q1 q2
    go_enter Tryz.func186, Tryz.ntmps186
    go_wp2_with (go_at_call 193; refine (e1 _).mono ?_; rintro r w1 ⟨rfl, hw⟩; rw [← hw]; clear hw)
    go_ret
    exact ⟨by simp, rfl⟩
  by_cases h7 : op = 7
  · subst h7
    clear l1 l2 q1 q2
    go_enter Tryz.func186, Tryz.ntmps186
    go_wp2_with (go_at_call 193; refine (e1 _).mono ?_; rintro r w1 ⟨rfl, hw⟩; rw [← hw]; clear hw)
    go_ret
    exact ⟨by simp, rfl⟩
  by_cases h8 : op = 8
  · subst h8
    clear e1 l2 q1 q2
    go_enter Tryz.func186, Tryz.ntmps186
    go_wp2_with (go_at_call 194; refine (l1 _).mono ?_; rintro r w1 ⟨rfl, hw⟩; rw [← hw]; clear hw)
    go_ret
    exact ⟨by simp, rfl⟩
  by_cases h9 : op = 9
  · subst h9
    clear e1 l1 l2 q2
    go_enter Tryz.func186, Tryz.ntmps186
    go_wp2_with (go_at_call 195; refine (q1 _).mono ?_; rintro r w1 ⟨rfl, hw⟩; rw [← hw]; clear hw)
    go_ret
    exact ⟨by simp, rfl⟩
  by_cases h10 : op = 10
  · subst h10
    clear e1 l1 q1 q2
    go_enter Tryz.func186, Tryz.ntmps186
    go_wp2_with (go_at_call 194; refine (l2 _).mono ?_; rintro r w1 ⟨rfl, hw⟩; rw [← hw]; clear hw)
    go_ret
    exact ⟨by simp, rfl⟩
  rw [if_neg h6, if_neg h7, if_neg h8, if_neg h9, if_neg h10]
  have b6 : (op == 6) = false := by simp [h6]
  have b7 : (op == 7) = false := by simp [h7]
  have b8 : (op == 8) = false := by simp [h8]
  have b9 : (op == 9) = false := by simp [h9]
  have b10 : (op == 10) = false := by simp [h10]
  clear h6 h7 h8 h9 h10 e1 l1 l2 q1
  go_enter Tryz.func186, Tryz.ntmps186
  go_wp2_with (go_at_call 195; refine (q2 _).mono ?_; rintro r w1 ⟨rfl, hw⟩; rw [← hw]; clear hw)
  go_ret
  exact ⟨by simp, rfl⟩
theorem ofFloats_any (op a b : Int) (ha : U64 a) (hb : U64 b) (w : World) : Calls Tryz.prog 173 #[ci op, .int .u64 a, .int .u64 b] w fun r w' => r = .returned (vv (fltsF op a b)) ∧ Fr (fun _ => False) w w' := by
  unfold fltsF
  by_cases h1 : op = 1
  · subst h1
    have k1 := F.add_any a b
    rw [if_pos rfl]
    generalize F.resS (floatBits .add .f64 a.toNat b.toNat) = R at k1 ⊢
    have k2 := float_any R
    have hb0 : Hidden ((w.alloc zo).heap[w.heap.size]? = some zo) := alloc_new _ _
    have f0 := Fr.alloc (fun _ => False) w zo
    clear ha hb
    go_enter Tryz.func173, Tryz.ntmps173
    go_wp2_with (first | (go_at_call 182; refine (k1 _).mono ?_; rintro r w1 ⟨rfl, hg1⟩; have f1 := grown_fr hg1) | (go_at_call 156; refine (k2 _).mono ?_; rintro r w2 ⟨rfl, f2⟩; have q2 := (f1.same f2).heap hb0 (fun f => f); obtain ⟨c0, c1, z0, z1⟩ := box2 q2))
    exact post_v1 (set_two q2 _ _) rfl rfl rfl ⟨rfl, fr_two (f0.same (f1.same f2)) (Nat.le_refl _) _ _⟩
  by_cases h2 : op = 2
  · subst h2
    have k1 := F.sub_any a b
    rw [if_neg (by decide), if_pos rfl]
    generalize F.resS (floatBits .sub .f64 a.toNat b.toNat) = R at k1 ⊢
    have k2 := float_any R
    have hb0 : Hidden ((w.alloc zo).heap[w.heap.size]? = some zo) := alloc_new _ _
    have f0 := Fr.alloc (fun _ => False) w zo
    clear ha hb
    go_enter Tryz.func173, Tryz.ntmps173
    go_wp2_with (first | (go_at_call 183; refine (k1 _).mono ?_; rintro r w1 ⟨rfl, hg1⟩; have f1 := grown_fr hg1) | (go_at_call 156; refine (k2 _).mono ?_; rintro r w2 ⟨rfl, f2⟩; have q2 := (f1.same f2).heap hb0 (fun f => f); obtain ⟨c0, c1, z0, z1⟩ := box2 q2))
    exact post_v1 (set_two q2 _ _) rfl rfl rfl ⟨rfl, fr_two (f0.same (f1.same f2)) (Nat.le_refl _) _ _⟩
  by_cases h3 : op = 3
  · subst h3
    have k1 := F.mul_any a b
    rw [if_neg (by decide), if_neg (by decide), if_pos rfl]
    generalize F.resS (floatBits .mul .f64 a.toNat b.toNat) = R at k1 ⊢
    have k2 := float_any R
    have hb0 : Hidden ((w.alloc zo).heap[w.heap.size]? = some zo) := alloc_new _ _
    have f0 := Fr.alloc (fun _ => False) w zo
    clear ha hb
    go_enter Tryz.func173, Tryz.ntmps173
    go_wp2_with (first | (go_at_call 184; refine (k1 _).mono ?_; rintro r w1 ⟨rfl, hg1⟩; have f1 := grown_fr hg1) | (go_at_call 156; refine (k2 _).mono ?_; rintro r w2 ⟨rfl, f2⟩; have q2 := (f1.same f2).heap hb0 (fun f => f); obtain ⟨c0, c1, z0, z1⟩ := box2 q2))
    exact post_v1 (set_two q2 _ _) rfl rfl rfl ⟨rfl, fr_two (f0.same (f1.same f2)) (Nat.le_refl _) _ _⟩
  by_cases h4 : op = 4
  · subst h4
    have k1 := F.div_any a b
    rw [if_neg (by decide), if_neg (by decide), if_neg (by decide), if_pos rfl]
    generalize F.resS (floatBits .quo .f64 a.toNat b.toNat) = R at k1 ⊢
    have k2 := float_any R
    have hb0 : Hidden ((w.alloc zo).heap[w.heap.size]? = some zo) := alloc_new _ _
    have f0 := Fr.alloc (fun _ => False) w zo
    clear ha hb
    go_enter Tryz.func173, Tryz.ntmps173
    go_wp2_with (first | (go_at_call 185; refine (k1 _).mono ?_; rintro r w1 ⟨rfl, hg1⟩; have f1 := grown_fr hg1) | (go_at_call 156; refine (k2 _).mono ?_; rintro r w2 ⟨rfl, f2⟩; have q2 := (f1.same f2).heap hb0 (fun f => f); obtain ⟨c0, c1, z0, z1⟩ := box2 q2))
    exact post_v1 (set_two q2 _ _) rfl rfl rfl ⟨rfl, fr_two (f0.same (f1.same f2)) (Nat.le_refl _) _ _⟩
  rw [if_neg h1, if_neg h2, if_neg h3, if_neg h4]
  have k2 := floatsAre_any op a b ha hb
  have k3 := truth_any (fcmpF op a b)
  generalize truthF (fcmpF op a b) = R at k3 ⊢
  obtain ⟨t, v⟩ := R
  dsimp only [vv] at k3 ⊢
  have hb0 : Hidden ((w.alloc zo).heap[w.heap.size]? = some zo) := alloc_new _ _
  have f0 := Fr.alloc (fun _ => False) w zo
  have b1 : (op == 1) = false := by simp [h1]
  have b2 : (op == 2) = false := by simp [h2]
  have b3 : (op == 3) = false := by simp [h3]
  have b4 : (op == 4) = false := by simp [h4]
  clear ha hb h1 h2 h3 h4
  go_enter Tryz.func173, Tryz.ntmps173
  go_wp2_with (first | (go_at_call 186; refine (k2 _).mono ?_; rintro r w1 ⟨rfl, hw⟩; rw [hw]; clear hw) | (go_at_call 153; refine (k3 _).mono ?_; rintro r w2 ⟨rfl, f2⟩; have q2 := f2.heap hb0 (fun f => f); obtain ⟨c0, c1, z0, z1⟩ := box2 q2))
  exact post_v1 (set_two q2 _ _) rfl rfl rfl ⟨rfl, fr_two (f0.same f2) (Nat.le_refl _) _ _⟩
set_option maxRecDepth 20000 in
theorem ofBools_any (op : Int) (a b : Bool) (w : World) : Calls Tryz.prog 174 #[ci op, .bool a, .bool b] w fun r w' => r = .returned (vv (boolsF op a b)) ∧ Fr (fun _ => False) w w' := by
  unfold boolsF
  by_cases h6 : op = 6
  · subst h6
    have k2 := truth_any (a == b)
    rw [if_pos rfl]
    generalize truthF (a == b) = R at k2 ⊢
    obtain ⟨t, v⟩ := R
    dsimp only [vv] at k2 ⊢
    have hb0 : Hidden ((w.alloc zo).heap[w.heap.size]? = some zo) := alloc_new _ _
    have f0 := Fr.alloc (fun _ => False) w zo
    cases a <;> cases b
    all_goals
      go_enter Tryz.func174, Tryz.ntmps174
      go_wp2_with (go_at_call 153; refine (k2 _).mono ?_; rintro r w2 ⟨rfl, f2⟩; have q2 := f2.heap hb0 (fun f => f); obtain ⟨c0, c1, z0, z1⟩ := box2 q2)
      exact post_v1 (set_two q2 _ _) rfl rfl rfl ⟨rfl, fr_two (f0.same f2) (Nat.le_refl _) _ _⟩
  by_cases h7 : op = 7
  · subst h7
    have k2 := truth_any (a != b)
    rw [if_neg (by decide), if_pos rfl]
    generalize truthF (a != b) = R at k2 ⊢
    obtain ⟨t, v⟩ := R
    dsimp only [vv] at k2 ⊢
    have hb0 : Hidden ((w.alloc zo).heap[w.heap.size]? = some zo) := alloc_new _ _
    have f0 := Fr.alloc (fun _ => False) w zo
    cases a <;> cases b
    all_goals
      go_enter Tryz.func174, Tryz.ntmps174
      go_wp2_with (go_at_call 153; refine (k2 _).mono ?_; rintro r w2 ⟨rfl, f2⟩; have q2 := f2.heap hb0 (fun f => f); obtain ⟨c0, c1, z0, z1⟩ := box2 q2)
      exact post_v1 (set_two q2 _ _) rfl rfl rfl ⟨rfl, fr_two (f0.same f2) (Nat.le_refl _) _ _⟩
  by_cases h12 : op = 12
  · subst h12
    have k2 := truth_any (a && b)
    rw [if_neg (by decide), if_neg (by decide), if_pos rfl]
    generalize truthF (a && b) = R at k2 ⊢
    obtain ⟨t, v⟩ := R
    dsimp only [vv] at k2 ⊢
    have hb0 : Hidden ((w.alloc zo).heap[w.heap.size]? = some zo) := alloc_new _ _
    have f0 := Fr.alloc (fun _ => False) w zo
    cases a <;> cases b
    all_goals
      go_enter Tryz.func174, Tryz.ntmps174
      go_wp2_with (go_at_call 153; refine (k2 _).mono ?_; rintro r w2 ⟨rfl, f2⟩; have q2 := f2.heap hb0 (fun f => f); obtain ⟨c0, c1, z0, z1⟩ := box2 q2)
      exact post_v1 (set_two q2 _ _) rfl rfl rfl ⟨rfl, fr_two (f0.same f2) (Nat.le_refl _) _ _⟩
  rw [if_neg h6, if_neg h7, if_neg h12]
  have k2 := truth_any (a || b)
  generalize truthF (a || b) = R at k2 ⊢
  obtain ⟨t, v⟩ := R
  dsimp only [vv] at k2 ⊢
  have hb0 : Hidden ((w.alloc zo).heap[w.heap.size]? = some zo) := alloc_new _ _
  have f0 := Fr.alloc (fun _ => False) w zo
  have b6 : (op == 6) = false := by simp [h6]
  have b7 : (op == 7) = false := by simp [h7]
  have b12 : (op == 12) = false := by simp [h12]
  clear h6 h7 h12
  cases a <;> cases b
  all_goals
    go_enter Tryz.func174, Tryz.ntmps174
    go_wp2_with (go_at_call 153; refine (k2 _).mono ?_; rintro r w2 ⟨rfl, f2⟩; have q2 := f2.heap hb0 (fun f => f); obtain ⟨c0, c1, z0, z1⟩ := box2 q2)
    exact post_v1 (set_two q2 _ _) rfl rfl rfl ⟨rfl, fr_two (f0.same f2) (Nat.le_refl _) _ _⟩
end Go.Proofs.YtpjahcncknccdaaGreat.Fo
