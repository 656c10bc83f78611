/- The document's operators: small ones. -/
import Derived.Test.YtmkfbppjbojdmaaGreatFoC
import Derived.Test.YtmkfbppjbojdmaaGreatFxD
import Derived.Test.YtmkfbppjbojdmaaGreatIzB
import Derived.Test.YtmkfbppjbojdmaaGreatTyB3
namespace Go.Proofs.YtmkfbppjbojdmaaGreat.Fo
open Go.RowKit
set_option linter.unusedSimpArgs false
set_option linter.unusedVariables false

def rtrapF (e : Int) : Int := if e = 0 then 0 else if e = 80 then 1 else if e = 81 then 2 else 3
theorem rtrap_any (e : Int) (w : World) : Calls Tryz.prog 48 #[ci e] w fun r w' => r = .returned (ci (rtrapF e)) ∧ w' = w := by
  unfold rtrapF
  by_cases h0 : e = 0
  · subst h0
    go_enter Tryz.func48, Tryz.ntmps48
    go_wp2
    go_ret
    exact ⟨rfl, rfl⟩
  by_cases h1 : e = 80
  · subst h1
    go_enter Tryz.func48, Tryz.ntmps48
    go_wp2
    go_ret
    exact ⟨rfl, rfl⟩
  by_cases h2 : e = 81
  · subst h2
    go_enter Tryz.func48, Tryz.ntmps48
    go_wp2
    go_ret
    exact ⟨rfl, rfl⟩
  rw [if_neg h0, if_neg h1, if_neg h2]
  have b0 : (e == 0) = false := by simp [h0]
  have b1 : (e == 80) = false := by simp [h1]
  have b2 : (e == 81) = false := by simp [h2]
  clear h0 h1 h2
  go_enter Tryz.func48, Tryz.ntmps48
  go_wp2
  go_ret
  exact ⟨rfl, rfl⟩
theorem rerrno_any (e : Int) (w : World) : Calls Tryz.prog 9 #[ci e] w fun r w' => r = .returned (ci (errnoF e)) ∧ w' = w := by
  unfold errnoF
  by_cases h0 : e = 0
  · subst h0
    go_enter Tryz.func9, Tryz.ntmps9
    go_wp2
    go_ret
    exact ⟨rfl, rfl⟩
  by_cases h1 : e = 1
  · subst h1
    go_enter Tryz.func9, Tryz.ntmps9
    go_wp2
    go_ret
    exact ⟨rfl, rfl⟩
  by_cases h2 : e = 2
  · subst h2
    go_enter Tryz.func9, Tryz.ntmps9
    go_wp2
    go_ret
    exact ⟨rfl, rfl⟩
  by_cases h3 : e = 3
  · subst h3
    go_enter Tryz.func9, Tryz.ntmps9
    go_wp2
    go_ret
    exact ⟨rfl, rfl⟩
  rw [if_neg h0, if_neg h1, if_neg h2, if_neg h3]
  have b0 : (e == 0) = false := by simp [h0]
  have b1 : (e == 1) = false := by simp [h1]
  have b2 : (e == 2) = false := by simp [h2]
  have b3 : (e == 3) = false := by simp [h3]
  clear h0 h1 h2 h3
  go_enter Tryz.func9, Tryz.ntmps9
  go_wp2
  go_ret
  exact ⟨rfl, rfl⟩
theorem rwhole_any (n : Int) (w : World) : Calls Tryz.prog 23 #[ci n] w fun r w' => r = .returned (.agg #[.int .i64 1, .int .u64 (IntKind.u64.wrap n)]) ∧ Fr (fun _ => False) w w' := by
  go_enter Tryz.func23, Tryz.ntmps23
  go_wp2
  exact post_v1 (alloc_at _ _ _ (by simp)) rfl rfl rfl ⟨rfl, Fr.alloc _ _ _⟩
theorem rfloat_any (b : Int) (w : World) : Calls Tryz.prog 24 #[.int .u64 b] w fun r w' => r = .returned (.agg #[.int .i64 2, .int .u64 b]) ∧ Fr (fun _ => False) w w' := by
  go_enter Tryz.func24, Tryz.ntmps24
  go_wp2
  exact post_v1 (alloc_at _ _ _ (by simp)) rfl rfl rfl ⟨rfl, Fr.alloc _ _ _⟩
theorem rtruth_any (b : Bool) (w : World) : Calls Tryz.prog 26 #[.bool b] w fun r w' => r = .returned (vv (truthF b)) ∧ Fr (fun _ => False) w w' := by
  cases b
  all_goals
    go_enter Tryz.func26, Tryz.ntmps26
    go_wp2
    exact post_v1 (alloc_at _ _ _ (by simp)) rfl rfl rfl ⟨rfl, Fr.alloc _ _ _⟩
theorem kept_any (n e : Int) (w : World) : Calls Tryz.prog 22 #[.agg #[.int .i64 1, .int .u64 (IntKind.u64.wrap n)], ci e] w fun r w' => r = .returned (.tuple #[vv (wholeF n e).1, ci (wholeF n e).2]) ∧ Fr (fun _ => False) w w' := by
  unfold wholeF
  by_cases h : e = 0
  · subst h
    rw [if_pos rfl]
    dsimp only [vv]
    generalize IntKind.u64.wrap n = X
    go_enter Tryz.func22, Tryz.ntmps22
    go_wp2
    exact post_v (alloc_at _ _ _ (by simp)) rfl rfl rfl ⟨rfl, (Fr.alloc _ _ _).same (Fr.alloc _ _ _)⟩
  · rw [if_neg h]
    dsimp only [vv]
    generalize IntKind.u64.wrap n = X
    have b0 : (e != 0) = true := by simp [h]
    have kt := rtrap_any e
    rw [show rtrapF e = trapF e by unfold rtrapF trapF; rw [if_neg h]] at kt
    clear h
    go_enter Tryz.func22, Tryz.ntmps22
    go_wp2_with (go_at_call 48; refine (kt _).mono ?_; rintro r w' ⟨rfl, hw⟩; rw [hw]; clear hw)
    exact post_v (alloc_at _ _ _ (by simp)) rfl rfl rfl ⟨rfl, (Fr.alloc _ _ _).same (Fr.alloc _ _ _)⟩
set_option maxRecDepth 20000 in
theorem rints_any (op a b : Int) (ha : I64 a) (hb : I64 b) (h1 : 1 ≤ op) (h5 : op ≤ 5) (w : World) : Calls Tryz.prog 36 #[ci op, ci a, ci b] w fun r w' => r = .returned (.tuple #[vv (intsF op a b).1, ci (intsF op a b).2]) ∧ Fr (fun _ => False) w w' := by
  have hb0 : Hidden ((w.alloc zo).heap[w.heap.size]? = some zo) := alloc_new _ _
  have f0 := Fr.alloc (fun _ => False) w zo
  rcases (show op = 1 ∨ op = 2 ∨ op = 3 ∨ op = 4 ∨ op = 5 by omega) with e | e | e | e | e
  · subst e
    rw [show intsF 1 a b = wholeF (Z.fitV (a + b)) (Z.fitE (a + b)) from rfl]
    have k1 := Z.radd_any a b ha hb
    generalize (Z.fitV (a + b)) = V at k1 ⊢
    generalize (Z.fitE (a + b)) = E at k1 ⊢
    have k2 := rwhole_any V
    have k3 := kept_any V E
    generalize wholeF V E = R at k3 ⊢
    generalize IntKind.u64.wrap V = X at k2 k3
    obtain ⟨⟨t, v⟩, q⟩ := R
    dsimp only [vv] at k3 ⊢
    clear ha hb h1 h5
    go_enter Tryz.func36, Tryz.ntmps36
    go_wp2_with (first | (go_at_call 71; refine (k1 _).mono ?_; rintro r w1 ⟨rfl, hw⟩; rw [← hw]; clear hw) | (go_at_call 23; refine (k2 _).mono ?_; rintro r w1 ⟨rfl, f1⟩) | (go_at_call 22; refine (k3 _).mono ?_; rintro r w2 ⟨rfl, f2⟩; have q2 := (f1.same f2).heap hb0 (fun f => f); obtain ⟨c0, c1, z0, z1⟩ := box2 q2))
    exact post_v (set_two q2 _ _) rfl rfl rfl ⟨rfl, fr_two (f0.same (f1.same f2)) (Nat.le_refl _) _ _⟩
  · subst e
    rw [show intsF 2 a b = wholeF (Z.fitV (a - b)) (Z.fitE (a - b)) from rfl]
    have k1 := Z.rsub_any a b ha hb
    generalize (Z.fitV (a - b)) = V at k1 ⊢
    generalize (Z.fitE (a - b)) = E at k1 ⊢
    have k2 := rwhole_any V
    have k3 := kept_any V E
    generalize wholeF V E = R at k3 ⊢
    generalize IntKind.u64.wrap V = X at k2 k3
    obtain ⟨⟨t, v⟩, q⟩ := R
    dsimp only [vv] at k3 ⊢
    clear ha hb h1 h5
    go_enter Tryz.func36, Tryz.ntmps36
    go_wp2_with (first | (go_at_call 47; refine (k1 _).mono ?_; rintro r w1 ⟨rfl, hw⟩; rw [← hw]; clear hw) | (go_at_call 23; refine (k2 _).mono ?_; rintro r w1 ⟨rfl, f1⟩) | (go_at_call 22; refine (k3 _).mono ?_; rintro r w2 ⟨rfl, f2⟩; have q2 := (f1.same f2).heap hb0 (fun f => f); obtain ⟨c0, c1, z0, z1⟩ := box2 q2))
    exact post_v (set_two q2 _ _) rfl rfl rfl ⟨rfl, fr_two (f0.same (f1.same f2)) (Nat.le_refl _) _ _⟩
  · subst e
    rw [show intsF 3 a b = wholeF (Z.fitV (a * b)) (Z.fitE (a * b)) from rfl]
    have k1 := Z.rmul_any a b ha hb
    generalize (Z.fitV (a * b)) = V at k1 ⊢
    generalize (Z.fitE (a * b)) = E at k1 ⊢
    have k2 := rwhole_any V
    have k3 := kept_any V E
    generalize wholeF V E = R at k3 ⊢
    generalize IntKind.u64.wrap V = X at k2 k3
    obtain ⟨⟨t, v⟩, q⟩ := R
    dsimp only [vv] at k3 ⊢
    clear ha hb h1 h5
    go_enter Tryz.func36, Tryz.ntmps36
    go_wp2_with (first | (go_at_call 72; refine (k1 _).mono ?_; rintro r w1 ⟨rfl, hw⟩; rw [← hw]; clear hw) | (go_at_call 23; refine (k2 _).mono ?_; rintro r w1 ⟨rfl, f1⟩) | (go_at_call 22; refine (k3 _).mono ?_; rintro r w2 ⟨rfl, f2⟩; have q2 := (f1.same f2).heap hb0 (fun f => f); obtain ⟨c0, c1, z0, z1⟩ := box2 q2))
    exact post_v (set_two q2 _ _) rfl rfl rfl ⟨rfl, fr_two (f0.same (f1.same f2)) (Nat.le_refl _) _ _⟩
  · subst e
    rw [show intsF 4 a b = wholeF (Z.divV a b) (Z.divE a b) from rfl]
    have k1 := Z.rdiv_any a b ha hb
    generalize (Z.divV a b) = V at k1 ⊢
    generalize (Z.divE a b) = E at k1 ⊢
    have k2 := rwhole_any V
    have k3 := kept_any V E
    generalize wholeF V E = R at k3 ⊢
    generalize IntKind.u64.wrap V = X at k2 k3
    obtain ⟨⟨t, v⟩, q⟩ := R
    dsimp only [vv] at k3 ⊢
    clear ha hb h1 h5
    go_enter Tryz.func36, Tryz.ntmps36
    go_wp2_with (first | (go_at_call 73; refine (k1 _).mono ?_; rintro r w1 ⟨rfl, hw⟩; rw [← hw]; clear hw) | (go_at_call 23; refine (k2 _).mono ?_; rintro r w1 ⟨rfl, f1⟩) | (go_at_call 22; refine (k3 _).mono ?_; rintro r w2 ⟨rfl, f2⟩; have q2 := (f1.same f2).heap hb0 (fun f => f); obtain ⟨c0, c1, z0, z1⟩ := box2 q2))
    exact post_v (set_two q2 _ _) rfl rfl rfl ⟨rfl, fr_two (f0.same (f1.same f2)) (Nat.le_refl _) _ _⟩
  · subst e
    rw [show intsF 5 a b = wholeF (Z.remV a b) (Z.remE b) from rfl]
    have k1 := Z.rrem_any a b ha hb
    generalize (Z.remV a b) = V at k1 ⊢
    generalize (Z.remE b) = E at k1 ⊢
    have k2 := rwhole_any V
    have k3 := kept_any V E
    generalize wholeF V E = R at k3 ⊢
    generalize IntKind.u64.wrap V = X at k2 k3
    obtain ⟨⟨t, v⟩, q⟩ := R
    dsimp only [vv] at k3 ⊢
    clear ha hb h1 h5
    go_enter Tryz.func36, Tryz.ntmps36
    go_wp2_with (first | (go_at_call 74; refine (k1 _).mono ?_; rintro r w1 ⟨rfl, hw⟩; rw [← hw]; clear hw) | (go_at_call 23; refine (k2 _).mono ?_; rintro r w1 ⟨rfl, f1⟩) | (go_at_call 22; refine (k3 _).mono ?_; rintro r w2 ⟨rfl, f2⟩; have q2 := (f1.same f2).heap hb0 (fun f => f); obtain ⟨c0, c1, z0, z1⟩ := box2 q2))
    exact post_v (set_two q2 _ _) rfl rfl rfl ⟨rfl, fr_two (f0.same (f1.same f2)) (Nat.le_refl _) _ _⟩
theorem rfloats_any (op a b : Int) (h1 : 1 ≤ op) (h4 : op ≤ 4) (w : World) : Calls Tryz.prog 35 #[ci op, .int .u64 a, .int .u64 b] w fun r w' => r = .returned (.int .u64 (fltsF op a b).2) ∧ Fr (fun _ => False) w w' := by
  rcases (show op = 1 ∨ op = 2 ∨ op = 3 ∨ op = 4 by omega) with e | e | e | e
  · subst e
    rw [show (fltsF 1 a b).2 = F.resS (floatBits .add .f64 a.toNat b.toNat) from rfl]
    have k1 := F.radd_any a b
    generalize F.resS (floatBits .add .f64 a.toNat b.toNat) = R at k1 ⊢
    clear h1 h4
    go_enter Tryz.func35, Tryz.ntmps35
    go_wp2_with (go_at_call 67; refine (k1 _).mono ?_; rintro r w1 ⟨rfl, hg1⟩)
    go_ret
    exact ⟨rfl, grown_fr hg1⟩
  · subst e
    rw [show (fltsF 2 a b).2 = F.resS (floatBits .sub .f64 a.toNat b.toNat) from rfl]
    have k1 := F.rsub_any a b
    generalize F.resS (floatBits .sub .f64 a.toNat b.toNat) = R at k1 ⊢
    clear h1 h4
    go_enter Tryz.func35, Tryz.ntmps35
    go_wp2_with (go_at_call 68; refine (k1 _).mono ?_; rintro r w1 ⟨rfl, hg1⟩)
    go_ret
    exact ⟨rfl, grown_fr hg1⟩
  · subst e
    rw [show (fltsF 3 a b).2 = F.resS (floatBits .mul .f64 a.toNat b.toNat) from rfl]
    have k1 := F.rmul_any a b
    generalize F.resS (floatBits .mul .f64 a.toNat b.toNat) = R at k1 ⊢
    clear h1 h4
    go_enter Tryz.func35, Tryz.ntmps35
    go_wp2_with (go_at_call 69; refine (k1 _).mono ?_; rintro r w1 ⟨rfl, hg1⟩)
    go_ret
    exact ⟨rfl, grown_fr hg1⟩
  · subst e
    rw [show (fltsF 4 a b).2 = F.resS (floatBits .quo .f64 a.toNat b.toNat) from rfl]
    have k1 := F.rdiv_any a b
    generalize F.resS (floatBits .quo .f64 a.toNat b.toNat) = R at k1 ⊢
    clear h1 h4
    go_enter Tryz.func35, Tryz.ntmps35
    go_wp2_with (go_at_call 70; refine (k1 _).mono ?_; rintro r w1 ⟨rfl, hg1⟩)
    go_ret
    exact ⟨rfl, grown_fr hg1⟩
def hoF (op : Int) (s l m : Bool) : Bool := if op = 6 then s else if op = 7 then !s else if op = 8 then l else if op = 9 then l || s else if op = 10 then m else m || s
set_option maxRecDepth 20000 in
theorem holds_2 (op va vb tb : Int) (ha : U64 va) (hb : U64 vb) (w : World) : Calls Tryz.prog 34 #[ci op, vv (2, va), vv (tb, vb)] w fun r w' => r = .returned (.bool (hoF op (F.Fl.eqS va vb) (F.Fl.lessS va vb) (F.Fl.lessS vb va))) ∧ Fr (fun _ => False) w w' := by
  have e1 := F.requal_any va vb ⟨ha.1, ha.2⟩ ⟨hb.1, hb.2⟩
  have l1 := F.rless_any va vb ⟨ha.1, ha.2⟩ ⟨hb.1, hb.2⟩
  have l2 := F.rless_any vb va ⟨hb.1, hb.2⟩ ⟨ha.1, ha.2⟩
  have f0 : Fr (fun _ => False) w ((w.alloc (zb (ci 2) (.int .u64 va))).alloc (zb (ci tb) (.int .u64 vb))) := (Fr.alloc _ _ _).same (Fr.alloc _ _ _)
  generalize F.Fl.eqS va vb = E at *
  generalize F.Fl.lessS va vb = L at *
  generalize F.Fl.lessS vb va = M at *
  unfold hoF
  dsimp only [vv]
  clear ha hb
  by_cases h6 : op = 6
  · subst h6
    go_enter Tryz.func34, Tryz.ntmps34
    go_wp2_with fail
    go_at_call 65
    refine (e1 _).mono ?_
    rintro r w1 ⟨rfl, hw⟩
    rw [← hw]
    clear hw
    go_wp2_with fail
    go_at_call 66
    refine (l1 _).mono ?_
    rintro r w1 ⟨rfl, hw⟩
    rw [← hw]
    clear hw
    go_wp2_with fail
    go_at_call 66
    refine (l2 _).mono ?_
    rintro r w1 ⟨rfl, hw⟩
    rw [← hw]
    clear hw
    go_wp2_with fail
    all_goals (go_ret; exact ⟨by first | (simp; done) | simp_all, f0⟩)
  by_cases h7 : op = 7
  · subst h7
    go_enter Tryz.func34, Tryz.ntmps34
    go_wp2_with fail
    go_at_call 65
    refine (e1 _).mono ?_
    rintro r w1 ⟨rfl, hw⟩
    rw [← hw]
    clear hw
    go_wp2_with fail
    go_at_call 66
    refine (l1 _).mono ?_
    rintro r w1 ⟨rfl, hw⟩
    rw [← hw]
    clear hw
    go_wp2_with fail
    go_at_call 66
    refine (l2 _).mono ?_
    rintro r w1 ⟨rfl, hw⟩
    rw [← hw]
    clear hw
    go_wp2_with fail
    all_goals (go_ret; exact ⟨by first | (simp; done) | simp_all, f0⟩)
  by_cases h8 : op = 8
  · subst h8
    go_enter Tryz.func34, Tryz.ntmps34
    go_wp2_with fail
    go_at_call 65
    refine (e1 _).mono ?_
    rintro r w1 ⟨rfl, hw⟩
    rw [← hw]
    clear hw
    go_wp2_with fail
    go_at_call 66
    refine (l1 _).mono ?_
    rintro r w1 ⟨rfl, hw⟩
    rw [← hw]
    clear hw
    go_wp2_with fail
    go_at_call 66
    refine (l2 _).mono ?_
    rintro r w1 ⟨rfl, hw⟩
    rw [← hw]
    clear hw
    go_wp2_with fail
    all_goals (go_ret; exact ⟨by first | (simp; done) | simp_all, f0⟩)
  by_cases h9 : op = 9
  · subst h9
    go_enter Tryz.func34, Tryz.ntmps34
    go_wp2_with fail
    go_at_call 65
    refine (e1 _).mono ?_
    rintro r w1 ⟨rfl, hw⟩
    rw [← hw]
    clear hw
    go_wp2_with fail
    go_at_call 66
    refine (l1 _).mono ?_
    rintro r w1 ⟨rfl, hw⟩
    rw [← hw]
    clear hw
    go_wp2_with fail
    go_at_call 66
    refine (l2 _).mono ?_
    rintro r w1 ⟨rfl, hw⟩
    rw [← hw]
    clear hw
    go_wp2_with fail
    all_goals (go_ret; exact ⟨by first | (simp; done) | simp_all, f0⟩)
  by_cases h10 : op = 10
  · subst h10
    go_enter Tryz.func34, Tryz.ntmps34
    go_wp2_with fail
    go_at_call 65
    refine (e1 _).mono ?_
    rintro r w1 ⟨rfl, hw⟩
    rw [← hw]
    clear hw
    go_wp2_with fail
    go_at_call 66
    refine (l1 _).mono ?_
    rintro r w1 ⟨rfl, hw⟩
    rw [← hw]
    clear hw
    go_wp2_with fail
    go_at_call 66
    refine (l2 _).mono ?_
    rintro r w1 ⟨rfl, hw⟩
    rw [← hw]
    clear hw
    go_wp2_with fail
    all_goals (go_ret; exact ⟨by first | (simp; done) | simp_all, f0⟩)
  rw [if_neg h6, if_neg h7, if_neg h8, if_neg h9, if_neg h10]
  have b6 : (op == 6) = false := by simp [h6]
  have b7 : (op == 7) = false := by simp [h7]
  have b8 : (op == 8) = false := by simp [h8]
  have b9 : (op == 9) = false := by simp [h9]
  have b10 : (op == 10) = false := by simp [h10]
  clear h6 h7 h8 h9 h10
  go_enter Tryz.func34, Tryz.ntmps34
  go_wp2_with fail
  go_at_call 65
  refine (e1 _).mono ?_
  rintro r w1 ⟨rfl, hw⟩
  rw [← hw]
  clear hw
  go_wp2_with fail
  go_at_call 66
  refine (l1 _).mono ?_
  rintro r w1 ⟨rfl, hw⟩
  rw [← hw]
  clear hw
  go_wp2_with fail
  go_at_call 66
  refine (l2 _).mono ?_
  rintro r w1 ⟨rfl, hw⟩
  rw [← hw]
  clear hw
  go_wp2_with fail
  all_goals (go_ret; exact ⟨by first | (simp; done) | simp_all, f0⟩)
set_option maxRecDepth 20000 in
theorem holds_n (op ta va vb tb : Int) (ht : ta ≠ 2) (w : World) : Calls Tryz.prog 34 #[ci op, vv (ta, va), vv (tb, vb)] w fun r w' => r = .returned (.bool (hoF op (va == vb) (decide (wrap64 va < wrap64 vb)) (decide (wrap64 vb < wrap64 va)))) ∧ Fr (fun _ => False) w w' := by
  have f0 : Fr (fun _ => False) w ((w.alloc (zb (ci ta) (.int .u64 va))).alloc (zb (ci tb) (.int .u64 vb))) := (Fr.alloc _ _ _).same (Fr.alloc _ _ _)
  have n2 : (ta == 2) = false := by simp [ht]
  clear ht
  unfold hoF
  dsimp only [vv]
  by_cases h6 : op = 6
  · subst h6
    go_enter Tryz.func34, Tryz.ntmps34
    go_wp2
    all_goals (go_ret; exact ⟨by simp_all, f0⟩)
  by_cases h7 : op = 7
  · subst h7
    go_enter Tryz.func34, Tryz.ntmps34
    go_wp2
    all_goals (go_ret; exact ⟨by simp_all, f0⟩)
  by_cases h8 : op = 8
  · subst h8
    go_enter Tryz.func34, Tryz.ntmps34
    go_wp2
    all_goals (go_ret; exact ⟨by simp_all, f0⟩)
  by_cases h9 : op = 9
  · subst h9
    go_enter Tryz.func34, Tryz.ntmps34
    go_wp2
    all_goals (go_ret; exact ⟨by simp_all, f0⟩)
  by_cases h10 : op = 10
  · subst h10
    go_enter Tryz.func34, Tryz.ntmps34
    go_wp2
    all_goals (go_ret; exact ⟨by simp_all, f0⟩)
  rw [if_neg h6, if_neg h7, if_neg h8, if_neg h9, if_neg h10]
  have b6 : (op == 6) = false := by simp [h6]
  have b7 : (op == 7) = false := by simp [h7]
  have b8 : (op == 8) = false := by simp [h8]
  have b9 : (op == 9) = false := by simp [h9]
  have b10 : (op == 10) = false := by simp [h10]
  clear h6 h7 h8 h9 h10
  go_enter Tryz.func34, Tryz.ntmps34
  go_wp2
  all_goals (go_ret; exact ⟨by simp_all, f0⟩)
end Go.Proofs.YtmkfbppjbojdmaaGreat.Fo
