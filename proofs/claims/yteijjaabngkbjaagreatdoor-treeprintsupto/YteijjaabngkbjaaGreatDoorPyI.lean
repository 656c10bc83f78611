/- The program's printing of statements and declarations (9): functions; any right declaration. -/
import Derived.Test.YteijjaabngkbjaaGreatDoorPyH
namespace Go.Proofs.YteijjaabngkbjaaGreatDoor
open Go.RowKit Te
set_option linter.unusedSimpArgs false
set_option linter.unusedVariables false

set_option maxRecDepth 20000 in
set_option maxHeartbeats 4000000 in
theorem decl_3t (name : Bs) (ty : Int) (hty : ty = 0 ∨ ty = 1 ∨ ty = 2 ∨ ty = 3) (acc T : Bs) (w0 w : World) (B b : Nat) (ht : F.Tab w0) (hw : PW w0 B b acc w) (ao1 ao2 ao3 : Option Addr) (n2 cap1 cap2 cap3 : Nat) (ps : List Pa) (bo : Sts) (hp : PaL w0 ao1 cap1 ps)
    (hpt : ∀ p ∈ ps, p.type = 0 ∨ p.type = 1 ∨ p.type = 2 ∨ p.type = 3) (hpn : ∀ p ∈ ps, p.name.length ≤ 1000000) (h8 : ps.length ≤ 8) (hB : BlkW bo 1) (hbo : StL w0 ao3 cap3 bo)
    (hT : Hidden (acc ++ ([101, 120, 112, 111, 114, 116, 32] ++ [102, 110, 32] ++ name ++ [40] ++ paT ps ++ [41] ++ tyT ty ++ [32, 123, 10]) ++ stT txS bo 1 ++ [125, 10] = T)) (hl : T.length ≤ 140737488355328) :
    Calls Tryz.prog 38 #[bp b, .agg #[ci 3, .bool true, ct name, ci ty, .slice ao1 ps.length cap1, .slice ao2 n2 cap2, .slice ao3 bo.len cap3]] w fun e w' => e = .returned (.tuple #[]) ∧ PW w0 B b T w' := by
  have f0 := Fr.alloc (fun _ => False) w (deO 3 true name ty (.slice ao1 ps.length cap1) (.slice ao2 n2 cap2) (.slice ao3 bo.len cap3))
  have hbx : Hidden ((w.alloc (deO 3 true name ty (.slice ao1 ps.length cap1) (.slice ao2 n2 cap2) (.slice ao3 bo.len cap3))).heap[w.heap.size]? = some (deO 3 true name ty (.slice ao1 ps.length cap1) (.slice ao2 n2 cap2) (.slice ao3 bo.len cap3))) := alloc_new _ _
  have g0 := hw.fr.same f0
  have hne := ne_pbld hw.bld
  have hlen : (paT ps).length ≤ 140737488355328 := by
    have := congrArg List.length (show _ = T from hT)
    simp only [List.length_append] at this
    omega
  have m3 : cap3 ≤ 9223372036854775807 := by have := hbo.2.1; unfold maxLen at this; omega
  have m3' := hbo.1
  have m1 : cap1 ≤ 9223372036854775807 := by have := hp.2.1; unfold maxLen at this; omega
  have m1' := hp.1
  have kp := fun (w1 : World) (f1 : Fr (fun _ => False) (w.alloc (deO 3 true name ty (.slice ao1 ps.length cap1) (.slice ao2 n2 cap2) (.slice ao3 bo.len cap3))) w1) => params_w ps ao1 cap1 w1 (hp.keep (g0.same f1)) hpt hpn h8 (paT ps) (show Hidden (paT ps = paT ps) from rfl) hlen
  generalize paT ps = E at kp hT hlen
  have kt := fun (w1 : World) => type_is ty hty w1
  generalize hty9 : tyT ty = Y at kt hT
  obtain ⟨T1, hT1'⟩ : ∃ T1, acc ++ [[101, 120, 112, 111, 114, 116, 32], [102, 110, 32], name, [40], E, [41], Y, [32, 123]].flatten ++ [10] = T1 := ⟨_, rfl⟩
  have rT1 : Hidden (T1 ++ (stT txS bo 1 ++ [125, 10]) = T) := by
    show _ = T
    rw [← (show _ = T from hT), ← hT1']
    simp
  have hT1 : Hidden (acc ++ [[101, 120, 112, 111, 114, 116, 32], [102, 110, 32], name, [40], E, [41], Y, [32, 123]].flatten ++ [10] = T1) := hT1'
  obtain ⟨T2, hT2'⟩ : ∃ T2, T1 ++ stT txS bo 1 = T2 := ⟨_, rfl⟩
  have rT2 : Hidden (T2 ++ [125, 10] = T) := by
    show _ = T
    rw [← (show _ = T from rT1), ← hT2']
    simp
  have hT2 : Hidden (T1 ++ stT txS bo 1 = T2) := hT2'
  have lT1 := app_le (show _ = T from rT1) hl
  have lT2 := app_le (show _ = T from rT2) hl
  have kl := fun (w1 : World) (f1 : Fr (fun _ => False) (w.alloc (deO 3 true name ty (.slice ao1 ps.length cap1) (.slice ao2 n2 cap2) (.slice ao3 bo.len cap3))) w1) => line_zero [[101, 120, 112, 111, 114, 116, 32], [102, 110, 32], name, [40], E, [41], Y, [32, 123]] acc T1 w0 w1 B b (hw.quiet (f0.same f1)) (by simp) hT1 lT1
  have hd0 : Fr (fun _ => False) (w.alloc (deO 3 true name ty (.slice ao1 ps.length cap1) (.slice ao2 n2 cap2) (.slice ao3 bo.len cap3))) (w.alloc (deO 3 true name ty (.slice ao1 ps.length cap1) (.slice ao2 n2 cap2) (.slice ao3 bo.len cap3))).drew := Fr.drew _ _
  obtain ⟨c0, c1, c2, c3, c4, c5, c6⟩ := ex_box hbx
  clear hT hty9 hT1' hT2'
  go_enter Tryz.func38, Tryz.ntmps38
  go_wp2_with fail
  go_region_held3 (fun w' => w'.cell? ⟨w.heap.size, 2, none⟩ = some (ct name) ∧ w'.cell? ⟨w.heap.size, 3, none⟩ = some (ci ty) ∧ w'.cell? ⟨w.heap.size, 4, none⟩ = some (.slice ao1 ps.length cap1)) (first | (refine ⟨by assumption, by assumption, by assumption⟩) | go_keep) (first
    | (go_at_call 80; refine (kt _).mono ?_; rintro e wt ⟨rfl, hwt⟩; have hwt := hwt.symm; subst hwt)
    | (go_at_call 81; refine (kp _ hd0).mono ?_; rintro e wa ⟨rfl, fa⟩; have ga := hd0.same fa; have q2 := ga.cellN c2; have q3 := ga.cellN c3; have q4 := ga.cellN c4)
    | (go_at_call 37; refine (kl wa (hd0.same fa)).mono ?_; rintro e wz ⟨rfl, p2, g2⟩; obtain ⟨e0', e1', e2', e3', e4', e5', e6'⟩ := ex_box (bs_keep g2 ((hd0.same fa).heap hbx (fun f => f)) hne (by decide))))
  all_goals
    have kb := hB 1 rfl ao3 cap3 w0 wz B b T1 T2 hbo ht p2 hT2 lT2
    go_wp2_with fail
    go_at_call 82
    refine kb.mono ?_
    rintro e w3 ⟨rfl, p3, g3⟩
    have kz := line_zero [[125]] T2 T w0 w3 B b p3 (by simp) (by rw [← (show _ = T from rT2)]; simp) hl
    go_wp2_with fail
    go_at_call 37
    refine kz.mono ?_
    rintro e w4 ⟨rfl, p4, g4⟩
    go_wp2_with fail
    go_end0
    exact ⟨rfl, p4⟩
set_option maxRecDepth 20000 in
set_option maxHeartbeats 4000000 in
theorem decl_3f (name : Bs) (ty : Int) (hty : ty = 0 ∨ ty = 1 ∨ ty = 2 ∨ ty = 3) (acc T : Bs) (w0 w : World) (B b : Nat) (ht : F.Tab w0) (hw : PW w0 B b acc w) (ao1 ao2 ao3 : Option Addr) (n2 cap1 cap2 cap3 : Nat) (ps : List Pa) (bo : Sts) (hp : PaL w0 ao1 cap1 ps)
    (hpt : ∀ p ∈ ps, p.type = 0 ∨ p.type = 1 ∨ p.type = 2 ∨ p.type = 3) (hpn : ∀ p ∈ ps, p.name.length ≤ 1000000) (h8 : ps.length ≤ 8) (hB : BlkW bo 1) (hbo : StL w0 ao3 cap3 bo)
    (hT : Hidden (acc ++ ([] ++ [102, 110, 32] ++ name ++ [40] ++ paT ps ++ [41] ++ tyT ty ++ [32, 123, 10]) ++ stT txS bo 1 ++ [125, 10] = T)) (hl : T.length ≤ 140737488355328) :
    Calls Tryz.prog 38 #[bp b, .agg #[ci 3, .bool false, ct name, ci ty, .slice ao1 ps.length cap1, .slice ao2 n2 cap2, .slice ao3 bo.len cap3]] w fun e w' => e = .returned (.tuple #[]) ∧ PW w0 B b T w' := by
  have f0 := Fr.alloc (fun _ => False) w (deO 3 false name ty (.slice ao1 ps.length cap1) (.slice ao2 n2 cap2) (.slice ao3 bo.len cap3))
  have hbx : Hidden ((w.alloc (deO 3 false name ty (.slice ao1 ps.length cap1) (.slice ao2 n2 cap2) (.slice ao3 bo.len cap3))).heap[w.heap.size]? = some (deO 3 false name ty (.slice ao1 ps.length cap1) (.slice ao2 n2 cap2) (.slice ao3 bo.len cap3))) := alloc_new _ _
  have g0 := hw.fr.same f0
  have hne := ne_pbld hw.bld
  have hlen : (paT ps).length ≤ 140737488355328 := by
    have := congrArg List.length (show _ = T from hT)
    simp only [List.length_append] at this
    omega
  have m3 : cap3 ≤ 9223372036854775807 := by have := hbo.2.1; unfold maxLen at this; omega
  have m3' := hbo.1
  have m1 : cap1 ≤ 9223372036854775807 := by have := hp.2.1; unfold maxLen at this; omega
  have m1' := hp.1
  have kp := fun (w1 : World) (f1 : Fr (fun _ => False) (w.alloc (deO 3 false name ty (.slice ao1 ps.length cap1) (.slice ao2 n2 cap2) (.slice ao3 bo.len cap3))) w1) => params_w ps ao1 cap1 w1 (hp.keep (g0.same f1)) hpt hpn h8 (paT ps) (show Hidden (paT ps = paT ps) from rfl) hlen
  generalize paT ps = E at kp hT hlen
  have kt := fun (w1 : World) => type_is ty hty w1
  generalize hty9 : tyT ty = Y at kt hT
  obtain ⟨T1, hT1'⟩ : ∃ T1, acc ++ [[], [102, 110, 32], name, [40], E, [41], Y, [32, 123]].flatten ++ [10] = T1 := ⟨_, rfl⟩
  have rT1 : Hidden (T1 ++ (stT txS bo 1 ++ [125, 10]) = T) := by
    show _ = T
    rw [← (show _ = T from hT), ← hT1']
    simp
  have hT1 : Hidden (acc ++ [[], [102, 110, 32], name, [40], E, [41], Y, [32, 123]].flatten ++ [10] = T1) := hT1'
  obtain ⟨T2, hT2'⟩ : ∃ T2, T1 ++ stT txS bo 1 = T2 := ⟨_, rfl⟩
  have rT2 : Hidden (T2 ++ [125, 10] = T) := by
    show _ = T
    rw [← (show _ = T from rT1), ← hT2']
    simp
  have hT2 : Hidden (T1 ++ stT txS bo 1 = T2) := hT2'
  have lT1 := app_le (show _ = T from rT1) hl
  have lT2 := app_le (show _ = T from rT2) hl
  have kl := fun (w1 : World) (f1 : Fr (fun _ => False) (w.alloc (deO 3 false name ty (.slice ao1 ps.length cap1) (.slice ao2 n2 cap2) (.slice ao3 bo.len cap3))) w1) => line_zero [[], [102, 110, 32], name, [40], E, [41], Y, [32, 123]] acc T1 w0 w1 B b (hw.quiet (f0.same f1)) (by simp) hT1 lT1
  have hd0 : Fr (fun _ => False) (w.alloc (deO 3 false name ty (.slice ao1 ps.length cap1) (.slice ao2 n2 cap2) (.slice ao3 bo.len cap3))) (w.alloc (deO 3 false name ty (.slice ao1 ps.length cap1) (.slice ao2 n2 cap2) (.slice ao3 bo.len cap3))).drew := Fr.drew _ _
  obtain ⟨c0, c1, c2, c3, c4, c5, c6⟩ := ex_box hbx
  clear hT hty9 hT1' hT2'
  go_enter Tryz.func38, Tryz.ntmps38
  go_wp2_with fail
  go_region_held3 (fun w' => w'.cell? ⟨w.heap.size, 2, none⟩ = some (ct name) ∧ w'.cell? ⟨w.heap.size, 3, none⟩ = some (ci ty) ∧ w'.cell? ⟨w.heap.size, 4, none⟩ = some (.slice ao1 ps.length cap1)) (first | (refine ⟨by assumption, by assumption, by assumption⟩) | go_keep) (first
    | (go_at_call 80; refine (kt _).mono ?_; rintro e wt ⟨rfl, hwt⟩; have hwt := hwt.symm; subst hwt)
    | (go_at_call 81; refine (kp _ hd0).mono ?_; rintro e wa ⟨rfl, fa⟩; have ga := hd0.same fa; have q2 := ga.cellN c2; have q3 := ga.cellN c3; have q4 := ga.cellN c4)
    | (go_at_call 37; refine (kl wa (hd0.same fa)).mono ?_; rintro e wz ⟨rfl, p2, g2⟩; obtain ⟨e0', e1', e2', e3', e4', e5', e6'⟩ := ex_box (bs_keep g2 ((hd0.same fa).heap hbx (fun f => f)) hne (by decide))))
  all_goals
    have kb := hB 1 rfl ao3 cap3 w0 wz B b T1 T2 hbo ht p2 hT2 lT2
    go_wp2_with fail
    go_at_call 82
    refine kb.mono ?_
    rintro e w3 ⟨rfl, p3, g3⟩
    have kz := line_zero [[125]] T2 T w0 w3 B b p3 (by simp) (by rw [← (show _ = T from rT2)]; simp) hl
    go_wp2_with fail
    go_at_call 37
    refine kz.mono ?_
    rintro e w4 ⟨rfl, p4, g4⟩
    go_wp2_with fail
    go_end0
    exact ⟨rfl, p4⟩
theorem isTy_c {t : Int} (h : isTy t = true) : t = 0 ∨ t = 1 ∨ t = 2 ∨ t = 3 := by
  simp only [isTy, Bool.or_eq_true, beq_iff_eq] at h
  omega
theorem rn_len {x : Bs} (h : rnS x = 0) : x.length ≤ 32 := by
  unfold rnS N.rightS at h
  split at h
  · split at h
    · exact absurd h (by decide)
    · omega
  · exact absurd h (by decide)
/-- Each right declaration is written. -/
theorem decl_w (d : De) (he : errD rnS cnS d = 0) (hO : OkD d) : DeclW d := by
  intro pv ev bv w0 w B b acc T hd ht hw hT hl
  obtain ⟨ao1, cap1, ao2, cap2, ao3, cap3, rfl, rfl, rfl, hp, hx, hb⟩ := hd
  unfold errD at he
  obtain ⟨a1, a2⟩ := Pz.orE_0 he
  obtain ⟨a3, a4⟩ := Pz.orE_0 a2
  obtain ⟨a5, a6⟩ := Pz.orE_0 a4
  obtain ⟨a7, a8⟩ := Pz.orE_0 a6
  obtain ⟨a9, b1⟩ := Pz.orE_0 a8
  obtain ⟨b2, b3⟩ := Pz.orE_0 b1
  have hdd : dD d ≤ 32 := by
    apply Classical.byContradiction
    intro hc
    rw [if_pos (by omega)] at a1
    exact absurd a1 (by decide)
  have hfit := Pz.ifx (c := fitsD d = true) a3 (by decide)
  have h8 : d.params.length ≤ 8 := by
    apply Classical.byContradiction
    intro hc
    rw [if_pos (by omega)] at a7
    exact absurd a7 (by decide)
  have hT : acc ++ deT txS d = T := hT
  obtain ⟨k, ex, name, ty, ps, e, bo⟩ := d
  obtain ⟨o1, o2, o3, o4, o5, o6⟩ := hO
  simp only at *
  unfold fitsD at hfit
  simp only at hfit
  by_cases k1 : k = 1
  · subst k1
    rw [if_pos rfl, Bool.and_eq_true, decide_eq_true_eq] at hfit
    obtain ⟨x, kx, b0, off, aok, capk, rfl, rfl, q1, q2, q3, q4, hk, c0, c1, c2, c3, c4, c5, c6⟩ := one_ex hx o5 b2 hfit.2.1
    cases ex
    · exact decl_1f name ty (isTy_c hfit.1) acc T w0 w B b ht hw ao1 ao3 ps.length bo.len cap1 cap3 x kx b0 off cap2 aok capk q1 q2 q3 q4 hk c0 c1 c2 c3 c4 c5 c6 (by show _ = T; rw [← hT]; simp [deT, exT, txF, txA_one]) hl
    · exact decl_1t name ty (isTy_c hfit.1) acc T w0 w B b ht hw ao1 ao3 ps.length bo.len cap1 cap3 x kx b0 off cap2 aok capk q1 q2 q3 q4 hk c0 c1 c2 c3 c4 c5 c6 (by show _ = T; rw [← hT]; simp [deT, exT, txF, txA_one]) hl
  rw [if_neg k1] at hfit
  by_cases k2 : k = 2
  · subst k2
    rw [if_pos rfl, Bool.and_eq_true, Bool.and_eq_true, decide_eq_true_eq] at hfit
    obtain ⟨x, kx, b0, off, aok, capk, rfl, rfl, q1, q2, q3, q4, hk, c0, c1, c2, c3, c4, c5, c6⟩ := one_ex hx o5 b2 hfit.2.1
    obtain rfl : ex = false := by simpa using hfit.1.1
    exact decl_2f name ty (isTy_c hfit.1.2) acc T w0 w B b ht hw ao1 ao3 ps.length bo.len cap1 cap3 x kx b0 off cap2 aok capk q1 q2 q3 q4 hk c0 c1 c2 c3 c4 c5 c6 (by show _ = T; rw [← hT]; simp [deT, exT, txF, txA_one]) hl
  rw [if_neg k2] at hfit
  by_cases k3 : k = 3
  · subst k3
    rw [if_pos rfl, Bool.and_eq_true, decide_eq_true_eq] at hfit
    have hty : ty = 0 ∨ ty = 1 ∨ ty = 2 ∨ ty = 3 := by
      have := hfit.1
      rw [Bool.or_eq_true] at this
      rcases this with h | h
      · exact Or.inl (by simpa using h)
      · exact isTy_c h
    have hB : BlkW bo 1 := blk_any bo 1 1 (by decide) b3 o6 (by have := (Pz.dD_of hdd).2 rfl; simpa using this)
    have hpa : ∀ p ∈ ps, rnS p.name = 0 ∧ isTy p.type = true := Pz.errP_of ps a9
    cases ex
    · exact decl_3f name ty hty acc T w0 w B b ht hw ao1 ao2 ao3 e.len cap1 cap2 cap3 ps bo hp (fun p hp => isTy_c (hpa p hp).2) (fun p hp => by have := rn_len (hpa p hp).1; omega) h8 hB hb (by show _ = T; rw [← hT]; simp [deT, exT, txF, txA_one]) hl
    · exact decl_3t name ty hty acc T w0 w B b ht hw ao1 ao2 ao3 e.len cap1 cap2 cap3 ps bo hp (fun p hp => isTy_c (hpa p hp).2) (fun p hp => by have := rn_len (hpa p hp).1; omega) h8 hB hb (by show _ = T; rw [← hT]; simp [deT, exT, txF, txA_one]) hl
  rw [if_neg k3] at hfit
  cases hfit
end Go.Proofs.YteijjaabngkbjaaGreatDoor
