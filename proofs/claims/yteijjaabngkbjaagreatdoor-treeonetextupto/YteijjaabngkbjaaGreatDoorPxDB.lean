/- PyI PxA TrB PzA PxD -/
import Derived.Test.YteijjaabngkbjaaGreatDoorPyHB
import Derived.Test.YteijjaabngkbjaaGreatDoorTrQB
import Derived.Test.YteijjaabngkbjaaGreatDoorTrTAll
import Derived.Test.YteijjaabngkbjaaGreatDoorTrLAll
import Derived.Test.YteijjaabngkbjaaGreatDoorTrQ4B
namespace Go.Proofs.YteijjaabngkbjaaGreatDoor
open Go.RowKit Te
set_option linter.unusedSimpArgs false
set_option linter.unusedVariables false
set_option maxRecDepth 20000 in
set_option maxHeartbeats 4000000 in
theorem decl_3t (name : Bs) (ty : Int) (hty : ty = 0 ∨ ty = 1 ∨ ty = 2 ∨ ty = 3) (acc T : Bs) (w0 w : World) (B b : Nat) (ht : F.Tab w0) (hw : PW w0 B b acc w) (ao1 ao2 ao3 : Option Addr) (n2 cap1 cap2 cap3 : Nat) (ps : List Pa) (bo : Sts) (hp : PaL w0 ao1 cap1 ps)
    (hpt : ∀ p ∈ ps, p.type = 0 ∨ p.type = 1 ∨ p.type = 2 ∨ p.type = 3) (hpn : ∀ p ∈ ps, p.name.length ≤ 1000000) (h8 : ps.length ≤ 8) (hB : BlkW bo 1) (hbo : StL w0 ao3 cap3 bo)
    (hT : Hidden (acc ++ ([101, 120, 112, 111, 114, 116, 32] ++ [102, 110, 32] ++ name ++ [40] ++ paT ps ++ [41] ++ tyT ty ++ [32, 123, 10]) ++ stT txS bo 1 ++ [125, 10] = T)) (hl : T.length ≤ 140737488355328) :
    Calls Tryz.prog 38 #[bp b, .agg #[ci 3, .bool true, ct name, ci ty, .slice ao1 ps.length cap1, .slice ao2 n2 cap2, .slice ao3 bo.len cap3]] w fun e w' => e = .returned (.tuple #[]) ∧ PW w0 B b T w' := by
  have f0 := Fr.alloc (fun _ => False) w (deO 3 true name ty (.slice ao1 ps.length cap1) (.slice ao2 n2 cap2) (.slice ao3 bo.len cap3))
  have hbx : Hidden ((w.alloc (deO 3 true name ty (.slice ao1 ps.length cap1) (.slice ao2 n2 cap2) (.slice ao3 bo.len cap3))).heap[w.heap.size]? = some (deO 3 true name ty (.slice ao1 ps.length cap1) (.slice ao2 n2 cap2) (.slice ao3 bo.len cap3))) := alloc_new _ _
  have g0 := hw.fr.same f0
  have hne := ne_pbld hw.bld
  have hlen : (paT ps).length ≤ 140737488355328 := by
    have := congrArg List.length (show _ = T from hT)
    simp only [List.length_append] at this
    omega
  have m3 : cap3 ≤ 9223372036854775807 := by have := hbo.2.1; unfold maxLen at this; omega
  have m3' := hbo.1
  have m1 : cap1 ≤ 9223372036854775807 := by have := hp.2.1; unfold maxLen at this; omega
  have m1' := hp.1
  have kp := fun (w1 : World) (f1 : Fr (fun _ => False) (w.alloc (deO 3 true name ty (.slice ao1 ps.length cap1) (.slice ao2 n2 cap2) (.slice ao3 bo.len cap3))) w1) => params_w ps ao1 cap1 w1 (hp.keep (g0.same f1)) hpt hpn h8 (paT ps) (show Hidden (paT ps = paT ps) from rfl) hlen
  generalize paT ps = E at kp hT hlen
  have kt := fun (w1 : World) => type_is ty hty w1
  generalize hty9 : tyT ty = Y at kt hT
  obtain ⟨T1, hT1'⟩ : ∃ T1, acc ++ [[101, 120, 112, 111, 114, 116, 32], [102, 110, 32], name, [40], E, [41], Y, [32, 123]].flatten ++ [10] = T1 := ⟨_, rfl⟩
  have rT1 : Hidden (T1 ++ (stT txS bo 1 ++ [125, 10]) = T) := by
    show _ = T
    rw [← (show _ = T from hT), ← hT1']
    simp
  have hT1 : Hidden (acc ++ [[101, 120, 112, 111, 114, 116, 32], [102, 110, 32], name, [40], E, [41], Y, [32, 123]].flatten ++ [10] = T1) := hT1'
  obtain ⟨T2, hT2'⟩ : ∃ T2, T1 ++ stT txS bo 1 = T2 := ⟨_, rfl⟩
  have rT2 : Hidden (T2 ++ [125, 10] = T) := by
    show _ = T
    rw [← (show _ = T from rT1), ← hT2']
    simp
  have hT2 : Hidden (T1 ++ stT txS bo 1 = T2) := hT2'
  have lT1 := app_le (show _ = T from rT1) hl
  have lT2 := app_le (show _ = T from rT2) hl
  have kl := fun (w1 : World) (f1 : Fr (fun _ => False) (w.alloc (deO 3 true name ty (.slice ao1 ps.length cap1) (.slice ao2 n2 cap2) (.slice ao3 bo.len cap3))) w1) => line_zero [[101, 120, 112, 111, 114, 116, 32], [102, 110, 32], name, [40], E, [41], Y, [32, 123]] acc T1 w0 w1 B b (hw.quiet (f0.same f1)) (by simp) hT1 lT1
  have hd0 : Fr (fun _ => False) (w.alloc (deO 3 true name ty (.slice ao1 ps.length cap1) (.slice ao2 n2 cap2) (.slice ao3 bo.len cap3))) (w.alloc (deO 3 true name ty (.slice ao1 ps.length cap1) (.slice ao2 n2 cap2) (.slice ao3 bo.len cap3))).drew := Fr.drew _ _
  obtain ⟨c0, c1, c2, c3, c4, c5, c6⟩ := ex_box hbx
  clear hT hty9 hT1' hT2'
  go_enter Tryz.func38, Tryz.ntmps38
  go_wp2_with fail
  go_region_held3 (fun w' => w'.cell? ⟨w.heap.size, 2, none⟩ = some (ct name) ∧ w'.cell? ⟨w.heap.size, 3, none⟩ = some (ci ty) ∧ w'.cell? ⟨w.heap.size, 4, none⟩ = some (.slice ao1 ps.length cap1)) (first | (refine ⟨by assumption, by assumption, by assumption⟩) | go_keep) (first
    | (go_at_call 80; refine (kt _).mono ?_; rintro e wt ⟨rfl, hwt⟩; have hwt := hwt.symm; subst hwt)
    | (go_at_call 81; refine (kp _ hd0).mono ?_; rintro e wa ⟨rfl, fa⟩; have ga := hd0.same fa; have q2 := ga.cellN c2; have q3 := ga.cellN c3; have q4 := ga.cellN c4)
    | (go_at_call 37; refine (kl wa (hd0.same fa)).mono ?_; rintro e wz ⟨rfl, p2, g2⟩; obtain ⟨e0', e1', e2', e3', e4', e5', e6'⟩ := ex_box (bs_keep g2 ((hd0.same fa).heap hbx (fun f => f)) hne (by decide))))
  all_goals
    have kb := hB 1 rfl ao3 cap3 w0 wz B b T1 T2 hbo ht p2 hT2 lT2
    go_wp2_with fail
    go_at_call 82
    refine kb.mono ?_
    rintro e w3 ⟨rfl, p3, g3⟩
    have kz := line_zero [[125]] T2 T w0 w3 B b p3 (by simp) (by rw [← (show _ = T from rT2)]; simp) hl
    go_wp2_with fail
    go_at_call 37
    refine kz.mono ?_
    rintro e w4 ⟨rfl, p4, g4⟩
    go_wp2_with fail
    go_end0
    exact ⟨rfl, p4⟩
set_option maxRecDepth 20000 in
set_option maxHeartbeats 4000000 in
theorem decl_3f (name : Bs) (ty : Int) (hty : ty = 0 ∨ ty = 1 ∨ ty = 2 ∨ ty = 3) (acc T : Bs) (w0 w : World) (B b : Nat) (ht : F.Tab w0) (hw : PW w0 B b acc w) (ao1 ao2 ao3 : Option Addr) (n2 cap1 cap2 cap3 : Nat) (ps : List Pa) (bo : Sts) (hp : PaL w0 ao1 cap1 ps)
    (hpt : ∀ p ∈ ps, p.type = 0 ∨ p.type = 1 ∨ p.type = 2 ∨ p.type = 3) (hpn : ∀ p ∈ ps, p.name.length ≤ 1000000) (h8 : ps.length ≤ 8) (hB : BlkW bo 1) (hbo : StL w0 ao3 cap3 bo)
    (hT : Hidden (acc ++ ([] ++ [102, 110, 32] ++ name ++ [40] ++ paT ps ++ [41] ++ tyT ty ++ [32, 123, 10]) ++ stT txS bo 1 ++ [125, 10] = T)) (hl : T.length ≤ 140737488355328) :
    Calls Tryz.prog 38 #[bp b, .agg #[ci 3, .bool false, ct name, ci ty, .slice ao1 ps.length cap1, .slice ao2 n2 cap2, .slice ao3 bo.len cap3]] w fun e w' => e = .returned (.tuple #[]) ∧ PW w0 B b T w' := by
  have f0 := Fr.alloc (fun _ => False) w (deO 3 false name ty (.slice ao1 ps.length cap1) (.slice ao2 n2 cap2) (.slice ao3 bo.len cap3))
  have hbx : Hidden ((w.alloc (deO 3 false name ty (.slice ao1 ps.length cap1) (.slice ao2 n2 cap2) (.slice ao3 bo.len cap3))).heap[w.heap.size]? = some (deO 3 false name ty (.slice ao1 ps.length cap1) (.slice ao2 n2 cap2) (.slice ao3 bo.len cap3))) := alloc_new _ _
  have g0 := hw.fr.same f0
  have hne := ne_pbld hw.bld
  have hlen : (paT ps).length ≤ 140737488355328 := by
    have := congrArg List.length (show _ = T from hT)
    simp only [List.length_append] at this
    omega
  have m3 : cap3 ≤ 9223372036854775807 := by have := hbo.2.1; unfold maxLen at this; omega
  have m3' := hbo.1
  have m1 : cap1 ≤ 9223372036854775807 := by have := hp.2.1; unfold maxLen at this; omega
  have m1' := hp.1
  have kp := fun (w1 : World) (f1 : Fr (fun _ => False) (w.alloc (deO 3 false name ty (.slice ao1 ps.length cap1) (.slice ao2 n2 cap2) (.slice ao3 bo.len cap3))) w1) => params_w ps ao1 cap1 w1 (hp.keep (g0.same f1)) hpt hpn h8 (paT ps) (show Hidden (paT ps = paT ps) from rfl) hlen
  generalize paT ps = E at kp hT hlen
  have kt := fun (w1 : World) => type_is ty hty w1
  generalize hty9 : tyT ty = Y at kt hT
  obtain ⟨T1, hT1'⟩ : ∃ T1, acc ++ [[], [102, 110, 32], name, [40], E, [41], Y, [32, 123]].flatten ++ [10] = T1 := ⟨_, rfl⟩
  have rT1 : Hidden (T1 ++ (stT txS bo 1 ++ [125, 10]) = T) := by
    show _ = T
    rw [← (show _ = T from hT), ← hT1']
    simp
  have hT1 : Hidden (acc ++ [[], [102, 110, 32], name, [40], E, [41], Y, [32, 123]].flatten ++ [10] = T1) := hT1'
  obtain ⟨T2, hT2'⟩ : ∃ T2, T1 ++ stT txS bo 1 = T2 := ⟨_, rfl⟩
  have rT2 : Hidden (T2 ++ [125, 10] = T) := by
    show _ = T
    rw [← (show _ = T from rT1), ← hT2']
    simp
  have hT2 : Hidden (T1 ++ stT txS bo 1 = T2) := hT2'
  have lT1 := app_le (show _ = T from rT1) hl
  have lT2 := app_le (show _ = T from rT2) hl
  have kl := fun (w1 : World) (f1 : Fr (fun _ => False) (w.alloc (deO 3 false name ty (.slice ao1 ps.length cap1) (.slice ao2 n2 cap2) (.slice ao3 bo.len cap3))) w1) => line_zero [[], [102, 110, 32], name, [40], E, [41], Y, [32, 123]] acc T1 w0 w1 B b (hw.quiet (f0.same f1)) (by simp) hT1 lT1
  have hd0 : Fr (fun _ => False) (w.alloc (deO 3 false name ty (.slice ao1 ps.length cap1) (.slice ao2 n2 cap2) (.slice ao3 bo.len cap3))) (w.alloc (deO 3 false name ty (.slice ao1 ps.length cap1) (.slice ao2 n2 cap2) (.slice ao3 bo.len cap3))).drew := Fr.drew _ _
  obtain ⟨c0, c1, c2, c3, c4, c5, c6⟩ := ex_box hbx
  clear hT hty9 hT1' hT2'
  go_enter Tryz.func38, Tryz.ntmps38
  go_wp2_with fail
  go_region_held3 (fun w' => w'.cell? ⟨w.heap.size, 2, none⟩ = some (ct name) ∧ w'.cell? ⟨w.heap.size, 3, none⟩ = some (ci ty) ∧ w'.cell? ⟨w.heap.size, 4, none⟩ = some (.slice ao1 ps.length cap1)) (first | (refine ⟨by assumption, by assumption, by assumption⟩) | go_keep) (first
    | (go_at_call 80; refine (kt _).mono ?_; rintro e wt ⟨rfl, hwt⟩; have hwt := hwt.symm; subst hwt)
    | (go_at_call 81; refine (kp _ hd0).mono ?_; rintro e wa ⟨rfl, fa⟩; have ga := hd0.same fa; have q2 := ga.cellN c2; have q3 := ga.cellN c3; have q4 := ga.cellN c4)
    | (go_at_call 37; refine (kl wa (hd0.same fa)).mono ?_; rintro e wz ⟨rfl, p2, g2⟩; obtain ⟨e0', e1', e2', e3', e4', e5', e6'⟩ := ex_box (bs_keep g2 ((hd0.same fa).heap hbx (fun f => f)) hne (by decide))))
  all_goals
    have kb := hB 1 rfl ao3 cap3 w0 wz B b T1 T2 hbo ht p2 hT2 lT2
    go_wp2_with fail
    go_at_call 82
    refine kb.mono ?_
    rintro e w3 ⟨rfl, p3, g3⟩
    have kz := line_zero [[125]] T2 T w0 w3 B b p3 (by simp) (by rw [← (show _ = T from rT2)]; simp) hl
    go_wp2_with fail
    go_at_call 37
    refine kz.mono ?_
    rintro e w4 ⟨rfl, p4, g4⟩
    go_wp2_with fail
    go_end0
    exact ⟨rfl, p4⟩
theorem isTy_c {t : Int} (h : isTy t = true) : t = 0 ∨ t = 1 ∨ t = 2 ∨ t = 3 := by
  simp only [isTy, Bool.or_eq_true, beq_iff_eq] at h
  omega
theorem rn_len {x : Bs} (h : rnS x = 0) : x.length ≤ 32 := by
  unfold rnS N.rightS at h
  split at h
  · split at h
    · exact absurd h (by decide)
    · omega
  · exact absurd h (by decide)
theorem decl_w (d : De) (he : errD rnS cnS d = 0) (hO : OkD d) : DeclW d := by
  intro pv ev bv w0 w B b acc T hd ht hw hT hl
  obtain ⟨ao1, cap1, ao2, cap2, ao3, cap3, rfl, rfl, rfl, hp, hx, hb⟩ := hd
  unfold errD at he
  obtain ⟨a1, a2⟩ := Pz.orE_0 he
  obtain ⟨a3, a4⟩ := Pz.orE_0 a2
  obtain ⟨a5, a6⟩ := Pz.orE_0 a4
  obtain ⟨a7, a8⟩ := Pz.orE_0 a6
  obtain ⟨a9, b1⟩ := Pz.orE_0 a8
  obtain ⟨b2, b3⟩ := Pz.orE_0 b1
  have hdd : dD d ≤ 32 := by
    apply Classical.byContradiction
    intro hc
    rw [if_pos (by omega)] at a1
    exact absurd a1 (by decide)
  have hfit := Pz.ifx (c := fitsD d = true) a3 (by decide)
  have h8 : d.params.length ≤ 8 := by
    apply Classical.byContradiction
    intro hc
    rw [if_pos (by omega)] at a7
    exact absurd a7 (by decide)
  have hT : acc ++ deT txS d = T := hT
  obtain ⟨k, ex, name, ty, ps, e, bo⟩ := d
  obtain ⟨o1, o2, o3, o4, o5, o6⟩ := hO
  simp only at *
  unfold fitsD at hfit
  simp only at hfit
  by_cases k1 : k = 1
  · subst k1
    rw [if_pos rfl, Bool.and_eq_true, decide_eq_true_eq] at hfit
    obtain ⟨x, kx, b0, off, aok, capk, rfl, rfl, q1, q2, q3, q4, hk, c0, c1, c2, c3, c4, c5, c6⟩ := one_ex hx o5 b2 hfit.2.1
    cases ex
    · exact decl_1f name ty (isTy_c hfit.1) acc T w0 w B b ht hw ao1 ao3 ps.length bo.len cap1 cap3 x kx b0 off cap2 aok capk q1 q2 q3 q4 hk c0 c1 c2 c3 c4 c5 c6 (by show _ = T; rw [← hT]; simp [deT, exT, txF, txA_one]) hl
    · exact decl_1t name ty (isTy_c hfit.1) acc T w0 w B b ht hw ao1 ao3 ps.length bo.len cap1 cap3 x kx b0 off cap2 aok capk q1 q2 q3 q4 hk c0 c1 c2 c3 c4 c5 c6 (by show _ = T; rw [← hT]; simp [deT, exT, txF, txA_one]) hl
  rw [if_neg k1] at hfit
  by_cases k2 : k = 2
  · subst k2
    rw [if_pos rfl, Bool.and_eq_true, Bool.and_eq_true, decide_eq_true_eq] at hfit
    obtain ⟨x, kx, b0, off, aok, capk, rfl, rfl, q1, q2, q3, q4, hk, c0, c1, c2, c3, c4, c5, c6⟩ := one_ex hx o5 b2 hfit.2.1
    obtain rfl : ex = false := by simpa using hfit.1.1
    exact decl_2f name ty (isTy_c hfit.1.2) acc T w0 w B b ht hw ao1 ao3 ps.length bo.len cap1 cap3 x kx b0 off cap2 aok capk q1 q2 q3 q4 hk c0 c1 c2 c3 c4 c5 c6 (by show _ = T; rw [← hT]; simp [deT, exT, txF, txA_one]) hl
  rw [if_neg k2] at hfit
  by_cases k3 : k = 3
  · subst k3
    rw [if_pos rfl, Bool.and_eq_true, decide_eq_true_eq] at hfit
    have hty : ty = 0 ∨ ty = 1 ∨ ty = 2 ∨ ty = 3 := by
      have := hfit.1
      rw [Bool.or_eq_true] at this
      rcases this with h | h
      · exact Or.inl (by simpa using h)
      · exact isTy_c h
    have hB : BlkW bo 1 := blk_any bo 1 1 (by decide) b3 o6 (by have := (Pz.dD_of hdd).2 rfl; simpa using this)
    have hpa : ∀ p ∈ ps, rnS p.name = 0 ∧ isTy p.type = true := Pz.errP_of ps a9
    cases ex
    · exact decl_3f name ty hty acc T w0 w B b ht hw ao1 ao2 ao3 e.len cap1 cap2 cap3 ps bo hp (fun p hp => isTy_c (hpa p hp).2) (fun p hp => by have := rn_len (hpa p hp).1; omega) h8 hB hb (by show _ = T; rw [← hT]; simp [deT, exT, txF, txA_one]) hl
    · exact decl_3t name ty hty acc T w0 w B b ht hw ao1 ao2 ao3 e.len cap1 cap2 cap3 ps bo hp (fun p hp => isTy_c (hpa p hp).2) (fun p hp => by have := rn_len (hpa p hp).1; omega) h8 hB hb (by show _ = T; rw [← hT]; simp [deT, exT, txF, txA_one]) hl
  rw [if_neg k3] at hfit
  cases hfit
end Go.Proofs.YteijjaabngkbjaaGreatDoor
namespace Go.Proofs.YteijjaabngkbjaaGreatDoor.F
open Fl
set_option linter.unusedSimpArgs false
set_option linter.unusedVariables false
theorem hexdig_hx (d : Nat) (h : d < 16) : Lx.hxB (hexdig d) = true := by
  have : d = 0 ∨ d = 1 ∨ d = 2 ∨ d = 3 ∨ d = 4 ∨ d = 5 ∨ d = 6 ∨ d = 7 ∨ d = 8 ∨ d = 9 ∨ d = 10 ∨ d = 11 ∨ d = 12 ∨ d = 13 ∨ d = 14 ∨ d = 15 := by omega
  rcases this with rfl | rfl | rfl | rfl | rfl | rfl | rfl | rfl | rfl | rfl | rfl | rfl | rfl | rfl | rfl | rfl <;> decide
theorem hexF_hx (k : Nat) : ∀ f, f < 4503599627370496 → ∀ x ∈ hexF k f, Lx.hxB x = true := by
  induction k with
  | zero => intro f _ x hx; simp [hexF] at hx
  | succ k ih =>
    intro f hf x hx
    unfold hexF at hx
    split at hx
    · simp at hx
    · rcases List.mem_cons.1 hx with rfl | hx
      · exact hexdig_hx _ (by omega)
      · exact ih _ (by omega) x hx
theorem fracL_hx (F : Nat) (hF : F < 4503599627370496) : ∀ x ∈ fracL F, Lx.hxB x = true := by
  intro x hx
  unfold fracL at hx
  split at hx
  · simp at hx
  · rcases List.mem_cons.1 hx with rfl | hx
    · decide
    · exact hexF_hx 13 F hF x hx
theorem dec_dgt (n : Nat) : ∀ x ∈ Lib.decDigits n, Lx.dgt x = true := by
  have h := (D.dec_facts n).1
  rw [List.all_eq_true] at h
  exact h
theorem dgt_hx {x : UInt8} (h : Lx.dgt x = true) : Lx.hxB x = true := by simp [Lx.hxB, h]
theorem expL_hx (e : Int) : ∀ x ∈ expL e, Lx.hxB x = true := by
  intro x hx
  unfold expL at hx
  split at hx
  · rcases List.mem_cons.1 hx with rfl | hx
    · decide
    · exact dgt_hx (dec_dgt _ x hx)
  · rcases List.mem_cons.1 hx with rfl | hx
    · decide
    · exact dgt_hx (dec_dgt _ x hx)
theorem text_hex (a : Int) (h0 : 0 ≤ a) (h1 : a < 9223372036854775808) (hc : canonS a = a) (n1 : a ≠ 9218868437227405312) (n2 : a ≠ 9221120237041090561) : ∃ z, textS a = 48 :: 120 :: z ∧ ∀ c ∈ z, Lx.hxB c = true := by
  have hp : partN a = false := by
    unfold partN
    split
    · rfl
    · exact decide_eq_false (by omega)
  have hn : nan a = false := by
    cases h : nan a
    · rfl
    · simp [canonS, h] at hc; exact absurd hc.symm n2
  have ht : textS a = sizeL (classS a) (partM a).toNat (partE a) := by simp [textS, hp]
  have hm : a % 9223372036854775808 = a := by omega
  rw [ht]
  rcases class_cases a with e | e | e | e | e
  · have := (class_nan a).1 e; rw [hn] at this; cases this
  · exfalso
    unfold classS at e
    rw [hm] at e
    revert e
    repeat' split
    all_goals omega
  · rw [e]
    exact ⟨[48, 112, 43, 48], rfl, by decide⟩
  all_goals
    have hg : classS a = 4 ∨ classS a = 5 := by omega
    rw [sizeL_great a hg]
    refine ⟨49 :: (fracL (nrm (partM a).toNat % 4503599627370496) ++ 112 :: expL (partE a - shf (partM a).toNat + 52)), rfl, ?_⟩
    intro c hc
    rcases List.mem_cons.1 hc with rfl | hc
    · decide
    · rcases List.mem_append.1 hc with hc | hc
      · exact fracL_hx _ (Nat.mod_lt _ (by decide)) c hc
      · rcases List.mem_cons.1 hc with rfl | hc
        · decide
        · exact expL_hx _ c hc
end Go.Proofs.YteijjaabngkbjaaGreatDoor.F
namespace Go.Proofs.YteijjaabngkbjaaGreatDoor
open Go.RowKit Lx Te
set_option linter.unusedSimpArgs false
set_option linter.unusedVariables false
theorem dec_0 : Go.Lib.decDigits 0 = [48] := by unfold Go.Lib.decDigits; simp
theorem nat_dec (v : Int) (h0 : 0 ≤ v) (h1 : v ≤ 9223372036854775807) : I.natS (Go.Lib.itoa v) = (v, 0, 0) := by
  obtain ⟨a1, a2, a3, a4⟩ := D.dec_facts v.toNat
  have e : Go.Lib.itoa v = Go.Lib.decDigits v.toNat := by unfold Go.Lib.itoa; rw [if_neg (by omega)]
  rw [e]
  have hr : I.runD (Go.Lib.decDigits v.toNat) = (Go.Lib.decDigits v.toNat).length := (I.runD_all _).2 a1
  have hv : I.numD (Go.Lib.decDigits v.toNat) = v.toNat := a2
  unfold I.natS I.amtS
  rw [if_neg (by omega), if_neg (by omega), if_neg, if_neg (by omega), hv]
  · simp; omega
  · rintro ⟨g1, g2⟩
    by_cases g : 1 ≤ v.toNat
    · obtain ⟨c, r, e1, e2, _⟩ := a4 g
      rw [e1] at g2
      simp at g2
      exact e2 g2
    · have : v.toNat = 0 := by omega
      rw [this, dec_0] at g1
      exact absurd g1 (by decide)
theorem noughts_dec (n : Nat) : noughts (Go.Lib.decDigits n) = Go.Lib.decDigits n := by
  obtain ⟨_, _, _, a4⟩ := D.dec_facts n
  by_cases g : 1 ≤ n
  · obtain ⟨c, r, e1, e2, _⟩ := a4 g
    rw [e1]
    cases r with
    | nil => rfl
    | cons d r => rw [noughts, if_neg e2]
  · have : n = 0 := by omega
    subst this
    rw [dec_0]
    rfl
theorem rn_nm (x : Bs) (h : rnS x = 0) : (∃ c r, x = c :: r ∧ ltr c = true) ∧ (∀ c ∈ x, nmB c = true) ∧ x ∉ wordsL ∧ valS 1 x = (0, 0, 0) := by
  unfold rnS N.rightS at h
  split at h
  · rename_i hs
    split at h
    · cases h
    · rename_i hl
      split at h
      · cases h
      · rename_i hw
        cases x with
        | nil => simp [N.speltS] at hs
        | cons c r =>
          rw [N.spelt_cons (c :: r) c rfl, Bool.and_eq_true] at hs
          have hc : ltr c = true := by
            have := hs.1
            simp only [N.letB, ltr, Bool.or_eq_true, Bool.and_eq_true, decide_eq_true_eq, beq_iff_eq] at this ⊢
            exact this
          refine ⟨⟨c, r, rfl, hc⟩, ?_, hw, ?_⟩
          · intro d hd
            have := (List.all_eq_true.1 hs.2) d hd
            simp only [N.ld, N.letB, N.digB, nmB, dgt, ltr, Bool.or_eq_true, Bool.and_eq_true, decide_eq_true_eq, beq_iff_eq] at this ⊢
            exact this.symm
          · unfold valS
            rw [if_pos rfl, if_neg hl]
  · cases h
theorem tx_int (vb : Int) (h0 : 0 ≤ vb) : txS 1 vb = Go.Lib.decDigits vb.toNat := by
  unfold txS
  rw [if_pos rfl]
  unfold Go.Lib.itoa
  rw [if_neg (by omega)]
theorem tx_flo (vb : Int) : txS 2 vb = F.textS vb := by
  unfold txS
  rw [if_neg (by decide), if_pos rfl]
theorem lawI (vb : Int) (h0 : 0 ≤ vb) : ∃ c r, txS 1 vb = c :: r ∧ dgt c = true := by
  rw [tx_int vb h0]
  have h := F.dec_dgt vb.toNat
  have h3 := (D.dec_facts vb.toNat).2.2.1
  cases e : Go.Lib.decDigits vb.toNat with
  | nil => rw [e] at h3; simp at h3
  | cons c r => exact ⟨c, r, rfl, h c (by rw [e]; simp)⟩
theorem lawT : Pz.LawT rnS cnS txS wordsL valS where
  nm := rn_nm
  wd := fun x => rfl
  mrk := fun x => rfl
  int := fun vb h0 h1 => by
    have h3 := (D.dec_facts vb.toNat).2.2.1
    refine ⟨?_, ?_, ?_⟩
    · rw [tx_int vb h0]; intro e; rw [e] at h3; simp at h3
    · rw [tx_int vb h0]; exact F.dec_dgt _
    · have hn := nat_dec vb h0 (by omega)
      have e : Go.Lib.itoa vb = Go.Lib.decDigits vb.toNat := by unfold Go.Lib.itoa; rw [if_neg (by omega)]
      rw [e] at hn
      rw [tx_int vb h0]
      unfold valS
      rw [if_neg (by decide), if_pos rfl, noughts_dec, hn]
      rfl
  flo := fun vb h0 hl n1 n2 => by
    simp only [litOk] at hl
    rw [if_neg (by decide), if_pos trivial] at hl
    simp only [Bool.and_eq_true, decide_eq_true_eq] at hl
    obtain ⟨z, e, hz⟩ := F.text_hex vb h0 hl.1 hl.2 n1 n2
    have hp := F.parse_text vb ⟨h0, by omega⟩
    refine ⟨z, by rw [tx_flo, e], hz, ?_⟩
    rw [tx_flo]
    unfold valS
    rw [if_neg (by decide), if_neg (by decide), if_pos rfl, if_pos (by rw [e]; rfl), hp, if_pos rfl]
    simp only [Prod.mk.injEq, true_and, and_true]
    exact hl.2
  inf := by rw [tx_flo]; decide +kernel
  nan := by rw [tx_flo]; decide +kernel
  fal := rfl
  tru := rfl
  wi := by decide
  wn := by decide
  wf := by decide
  wt := by decide
  wI := by decide
  wF := by decide
  wp := by decide
end Go.Proofs.YteijjaabngkbjaaGreatDoor
namespace Go.Proofs.YteijjaabngkbjaaGreatDoor
open Go.RowKit Te
set_option linter.unusedSimpArgs false
set_option linter.unusedVariables false
theorem textS_len (a : Int) (ha : F.Fl.U a) : (F.textS a).length ≤ 3001 := by
  obtain ⟨h1, h2, h3⟩ := F.parts_bounds a ha
  have := F.sizeL_len (F.Fl.classS a) (F.partM a).toNat (F.partE a) h1 h2 h3
  unfold F.textS
  rw [List.length_append]
  split <;> simp <;> omega
theorem txS_len (vt vb : Int) (h0 : 0 ≤ vb) (h1 : vb < 18446744073709551616) (h2 : vt = 1 → vb < 9223372036854775808) : (txS vt vb).length ≤ 3001 := by
  unfold txS
  split
  · have hv := h2 (by assumption)
    have := (D.itoa_len vb ⟨by omega, by omega⟩).1
    omega
  split
  · exact textS_len vb ⟨h0, h1⟩
  split <;> simp
end Go.Proofs.YteijjaabngkbjaaGreatDoor
namespace Go.Proofs.YteijjaabngkbjaaGreatDoor
open Go.RowKit Lx Te
set_option linter.unusedSimpArgs false
set_option linter.unusedVariables false
theorem kws_in : ∀ x ∈ Pz.kws, x ∈ wordsL := by decide
theorem tx_ln (vt vb : Int) (h : litOk cnS vt vb = true) (h0 : 0 ≤ vb) : (txS vt vb).length ≤ 3001 := by
  have hb : vb < 9223372036854775808 := by
    unfold litOk at h
    split at h
    · simpa using h
    · split at h
      · rw [Bool.and_eq_true] at h; simpa using h.1
      · split at h
        · have : vb ≤ 1 := by simpa using h
          omega
        · cases h
  exact txS_len vt vb h0 (by omega) (fun _ => hb)
theorem nnX_of : ∀ (k : Exs), OkX k → Pz.NnX k
  | .nil, _ => trivial
  | .cons h k r, ⟨h1, h2, h3⟩ => ⟨h1.vb0, nnX_of k h2, nnX_of r h3⟩
theorem nnS_of : ∀ (k : Sts), OkS k → Pz.NnS k
  | .nil, _ => trivial
  | .cons h e b l r, ⟨_, _, h1, h2, h3, h4⟩ => ⟨nnX_of e h1, nnS_of b h2, nnS_of l h3, nnS_of r h4⟩
theorem nnD_of {d : De} (h : OkD d) : Pz.NnD d := ⟨nnX_of _ h.e, nnS_of _ h.body⟩
theorem sz_bkX : ∀ k : Exs, k.size + 1 ≤ In.bkX k
  | .nil => Nat.le_refl _
  | .cons h k r => by have := sz_bkX k; have := sz_bkX r; simp only [Exs.size, In.bkX]; omega
theorem sz_bkS : ∀ k : Sts, k.size + 1 ≤ In.bkS k
  | .nil => Nat.le_refl _
  | .cons h e b l r => by have := sz_bkX e; have := sz_bkS b; have := sz_bkS l; have := sz_bkS r; simp only [Sts.size, In.bkS]; omega
theorem pa_sum : ∀ l : List Pa, l.length ≤ (l.map fun p => p.name.length + 1).sum
  | [] => Nat.le_refl _
  | p :: r => by have := pa_sum r; simp only [List.length_cons, List.map_cons, List.sum_cons]; omega
theorem im_sum : ∀ l : List Bs, l.length ≤ (l.map fun p => p.length + 1).sum
  | [] => Nat.le_refl _
  | p :: r => by have := im_sum r; simp only [List.length_cons, List.map_cons, List.sum_cons]; omega
theorem nd_bk (d : De) : ndD d ≤ In.bkD d := by
  have := sz_bkX d.e
  have := sz_bkS d.body
  have := pa_sum d.params
  unfold ndD In.bkD
  omega
theorem fDs_bk : ∀ l : List De, Pz.fDs l ≤ (l.map In.bkD).sum
  | [] => Nat.le_refl _
  | d :: r => by
    have := fDs_bk r
    have := nd_bk d
    simp only [Pz.fDs, List.map_cons, List.sum_cons] at *
    omega
theorem errDs_mem : ∀ (l : List De), errDs rnS cnS l = 0 → ∀ d ∈ l, errD rnS cnS d = 0
  | [], _, d, hd => by simp at hd
  | x :: r, h, d, hd => by
    obtain ⟨h1, h2⟩ := Pz.orE_0 h
    rcases List.mem_cons.1 hd with rfl | hd
    · exact h1
    · exact errDs_mem r h2 d hd
theorem errM_decls {m : Mo} (h : errM rnS cnS m = 0) : ∀ d ∈ m.decls, errD rnS cnS d = 0 := by
  unfold errM at h
  obtain ⟨_, a2⟩ := Pz.orE_0 h
  obtain ⟨_, a4⟩ := Pz.orE_0 a2
  obtain ⟨_, a6⟩ := Pz.orE_0 a4
  obtain ⟨_, a8⟩ := Pz.orE_0 a6
  exact errDs_mem _ a8
theorem mo_len (m : Mo) (he : errM rnS cnS m = 0) (hN : ∀ d ∈ m.decls, Pz.NnD d) (hsz : m.imports.length + Pz.fDs m.decls ≤ 10000000) : (moT txS m).length ≤ 60000000000 := by
  have := Pz.moT_ln (rn := rnS) (cn := cnS) (tx := txS) (fun x h => rn_len h) tx_ln m he hN
  omega
theorem print_up (m : Mo) (v : Value) (w : World) (hok : OkM m) (hv : MoI w m v) (ht : F.Tab w) (hsz : m.imports.length + Pz.fDs m.decls ≤ 10000000) :
    Calls Tryz.prog 8 #[v] w fun e w' => e = .returned (.tuple #[ct (prS m).1, ci (prS m).2]) ∧ Fr (fun _ => False) w w' :=
  print_w m v w hok hv ht (fun he d hd => decl_w d (errM_decls he d hd) (hok.decls d hd)) (fun he => by have := mo_len m he (fun d hd => nnD_of (hok.decls d hd)) hsz; omega)
end Go.Proofs.YteijjaabngkbjaaGreatDoor
namespace Go.Proofs.YteijjaabngkbjaaGreatDoor
open Go.RowKit Lx Te
set_option linter.unusedSimpArgs false
set_option linter.unusedVariables false
section
variable (a b : Mo) (ao aod bo bod : Option Addr) (cap capd bap bapd : Nat) (w : World) (ht : F.Tab w) (hva : MoI w a (moV a ao cap aod capd)) (hvb : MoI w b (moV b bo bap bod bapd))
abbrev boxes : World := (w.alloc (moO a (.slice ao a.imports.length cap) (.slice aod a.decls.length capd))).alloc (moO b (.slice bo b.imports.length bap) (.slice bod b.decls.length bapd))
include ht in
set_option maxRecDepth 20000 in
set_option maxHeartbeats 1000000 in
theorem one_bad (E E2 : Int) (s2 : By) (hE : (E != 0) = true) (hE0 : (E == 0) = false)
    (kA : ∀ w1, Fr (fun _ => False) w w1 → Calls Tryz.prog 8 #[moV a ao cap aod capd] w1 fun e w' => e = .returned (.tuple #[ct [], ci E]) ∧ Fr (fun _ => False) w1 w')
    (kB : ∀ w1, Fr (fun _ => False) w w1 → Calls Tryz.prog 8 #[moV b bo bap bod bapd] w1 fun e w' => e = .returned (.tuple #[ct s2, ci E2]) ∧ Fr (fun _ => False) w1 w') :
    Calls Tryz.prog 4 #[moV a ao cap aod capd, moV b bo bap bod bapd] w fun e w' => e = .returned (.bool true) ∧ Fr (fun _ => False) w w' := by
  have f0 : Fr (fun _ => False) w (boxes a b ao aod bo bod cap capd bap bapd w) := (Fr.alloc _ _ _).same (Fr.alloc _ _ _)
  have hb1 : Hidden ((boxes a b ao aod bo bod cap capd bap bapd w).heap[w.heap.size]? = some (moO a (.slice ao a.imports.length cap) (.slice aod a.decls.length capd))) := (Fr.alloc (fun _ => False) _ _).heap (alloc_new _ _) (fun f => f)
  have hb2 : Hidden ((boxes a b ao aod bo bod cap capd bap bapd w).heap[w.heap.size + 1]? = some (moO b (.slice bo b.imports.length bap) (.slice bod b.decls.length bapd))) := by
    have := alloc_new (w.alloc (moO a (.slice ao a.imports.length cap) (.slice aod a.decls.length capd))) (moO b (.slice bo b.imports.length bap) (.slice bod b.decls.length bapd))
    rw [show (w.alloc (moO a (.slice ao a.imports.length cap) (.slice aod a.decls.length capd))).heap.size = w.heap.size + 1 by simp] at this
    exact this
  go_enter Tryz.func4, Tryz.ntmps4
  go_wp2_with fail
  go_at_call 10
  refine (live_any _ (tab_fr ht f0)).mono ?_
  rintro e w1 ⟨rfl, f1⟩
  have g1 := f0.same f1
  obtain ⟨c0, c1, c2⟩ := mo_box (f1.heap hb1 (fun f => f))
  go_wp2_with fail
  go_at_call 8
  refine (kA _ g1).mono ?_
  rintro e w2 ⟨rfl, f2⟩
  have g2 := g1.same f2
  obtain ⟨d0, d1, d2⟩ := mo_box (f2.heap (f1.heap hb2 (fun f => f)) (fun f => f))
  go_wp2_with fail
  go_at_call 8
  refine (kB _ g2).mono ?_
  rintro e w3 ⟨rfl, f3⟩
  have g3 := g2.same f3
  go_wp2_with fail
  go_ret
  exact ⟨rfl, g3⟩
include ht hva in
set_option maxRecDepth 20000 in
set_option maxHeartbeats 1000000 in
theorem one_half (oa : OkM a) (s1 : By) (E2 : Int) (s2 : By) (hE : (E2 != 0) = true) (he : errM rnS cnS a = 0)
    (kA : ∀ w1, Fr (fun _ => False) w w1 → Calls Tryz.prog 8 #[moV a ao cap aod capd] w1 fun e w' => e = .returned (.tuple #[ct s1, ci 0]) ∧ Fr (fun _ => False) w1 w')
    (kB : ∀ w1, Fr (fun _ => False) w w1 → Calls Tryz.prog 8 #[moV b bo bap bod bapd] w1 fun e w' => e = .returned (.tuple #[ct s2, ci E2]) ∧ Fr (fun _ => False) w1 w') :
    Calls Tryz.prog 4 #[moV a ao cap aod capd, moV b bo bap bod bapd] w fun e w' => e = .returned (.bool true) ∧ Fr (fun _ => False) w w' := by
  have f0 : Fr (fun _ => False) w (boxes a b ao aod bo bod cap capd bap bapd w) := (Fr.alloc _ _ _).same (Fr.alloc _ _ _)
  have hb1 : Hidden ((boxes a b ao aod bo bod cap capd bap bapd w).heap[w.heap.size]? = some (moO a (.slice ao a.imports.length cap) (.slice aod a.decls.length capd))) := (Fr.alloc (fun _ => False) _ _).heap (alloc_new _ _) (fun f => f)
  have hb2 : Hidden ((boxes a b ao aod bo bod cap capd bap bapd w).heap[w.heap.size + 1]? = some (moO b (.slice bo b.imports.length bap) (.slice bod b.decls.length bapd))) := by
    have := alloc_new (w.alloc (moO a (.slice ao a.imports.length cap) (.slice aod a.decls.length capd))) (moO b (.slice bo b.imports.length bap) (.slice bod b.decls.length bapd))
    rw [show (w.alloc (moO a (.slice ao a.imports.length cap) (.slice aod a.decls.length capd))).heap.size = w.heap.size + 1 by simp] at this
    exact this
  have kr := fun (w1 : World) (f : Fr (fun _ => False) w w1) => right_any a _ w1 oa (hva.keep f)
  rw [he] at kr
  clear he
  go_enter Tryz.func4, Tryz.ntmps4
  go_wp2_with fail
  go_at_call 10
  refine (live_any _ (tab_fr ht f0)).mono ?_
  rintro e w1 ⟨rfl, f1⟩
  have g1 := f0.same f1
  obtain ⟨c0, c1, c2⟩ := mo_box (f1.heap hb1 (fun f => f))
  go_wp2_with fail
  go_at_call 8
  refine (kA _ g1).mono ?_
  rintro e w2 ⟨rfl, f2⟩
  have g2 := g1.same f2
  obtain ⟨d0, d1, d2⟩ := mo_box (f2.heap (f1.heap hb2 (fun f => f)) (fun f => f))
  go_wp2_with fail
  go_at_call 8
  refine (kB _ g2).mono ?_
  rintro e w3 ⟨rfl, f3⟩
  have g3 := g2.same f3
  obtain ⟨c0, c1, c2⟩ := mo_box (f3.heap (f2.heap (f1.heap hb1 (fun f => f)) (fun f => f)) (fun f => f))
  go_wp2_with fail
  go_at_call 11
  refine (kr _ g3).mono ?_
  rintro e w4 ⟨rfl, f4⟩
  go_wp2_with fail
  go_ret
  exact ⟨rfl, g3.same f4⟩
include ht hva hvb in
set_option maxRecDepth 20000 in
set_option maxHeartbeats 1000000 in
theorem one_both (oa : OkM a) (s1 s2 : By) (he : errM rnS cnS a = 0) (hs : Hidden ((s1 == s2) = decide (a = b)))
    (kA : ∀ w1, Fr (fun _ => False) w w1 → Calls Tryz.prog 8 #[moV a ao cap aod capd] w1 fun e w' => e = .returned (.tuple #[ct s1, ci 0]) ∧ Fr (fun _ => False) w1 w')
    (kB : ∀ w1, Fr (fun _ => False) w w1 → Calls Tryz.prog 8 #[moV b bo bap bod bapd] w1 fun e w' => e = .returned (.tuple #[ct s2, ci 0]) ∧ Fr (fun _ => False) w1 w') :
    Calls Tryz.prog 4 #[moV a ao cap aod capd, moV b bo bap bod bapd] w fun e w' => e = .returned (.bool true) ∧ Fr (fun _ => False) w w' := by
  have f0 : Fr (fun _ => False) w (boxes a b ao aod bo bod cap capd bap bapd w) := (Fr.alloc _ _ _).same (Fr.alloc _ _ _)
  have hb1 : Hidden ((boxes a b ao aod bo bod cap capd bap bapd w).heap[w.heap.size]? = some (moO a (.slice ao a.imports.length cap) (.slice aod a.decls.length capd))) := (Fr.alloc (fun _ => False) _ _).heap (alloc_new _ _) (fun f => f)
  have hb2 : Hidden ((boxes a b ao aod bo bod cap capd bap bapd w).heap[w.heap.size + 1]? = some (moO b (.slice bo b.imports.length bap) (.slice bod b.decls.length bapd))) := by
    have := alloc_new (w.alloc (moO a (.slice ao a.imports.length cap) (.slice aod a.decls.length capd))) (moO b (.slice bo b.imports.length bap) (.slice bod b.decls.length bapd))
    rw [show (w.alloc (moO a (.slice ao a.imports.length cap) (.slice aod a.decls.length capd))).heap.size = w.heap.size + 1 by simp] at this
    exact this
  have kr := fun (w1 : World) (f : Fr (fun _ => False) w w1) => right_any a _ w1 oa (hva.keep f)
  have ks := fun (w1 : World) (f : Fr (fun _ => False) w w1) => same_any a b _ _ w1 (hva.keep f) (hvb.keep f)
  rw [he] at kr
  rw [← (show (s1 == s2) = decide (a = b) from hs)] at ks
  clear he hs
  go_enter Tryz.func4, Tryz.ntmps4
  go_wp2_with fail
  go_at_call 10
  refine (live_any _ (tab_fr ht f0)).mono ?_
  rintro e w1 ⟨rfl, f1⟩
  have g1 := f0.same f1
  obtain ⟨c0, c1, c2⟩ := mo_box (f1.heap hb1 (fun f => f))
  go_wp2_with fail
  go_at_call 8
  refine (kA _ g1).mono ?_
  rintro e w2 ⟨rfl, f2⟩
  have g2 := g1.same f2
  obtain ⟨d0, d1, d2⟩ := mo_box (f2.heap (f1.heap hb2 (fun f => f)) (fun f => f))
  go_wp2_with fail
  go_at_call 8
  refine (kB _ g2).mono ?_
  rintro e w3 ⟨rfl, f3⟩
  have g3 := g2.same f3
  obtain ⟨c0, c1, c2⟩ := mo_box (f3.heap (f2.heap (f1.heap hb1 (fun f => f)) (fun f => f)) (fun f => f))
  go_wp2_with fail
  go_at_call 11
  refine (kr _ g3).mono ?_
  rintro e w4 ⟨rfl, f4⟩
  have g4 := g3.same f4
  obtain ⟨c0, c1, c2⟩ := mo_box (f4.heap (f3.heap (f2.heap (f1.heap hb1 (fun f => f)) (fun f => f)) (fun f => f)) (fun f => f))
  obtain ⟨d0, d1, d2⟩ := mo_box (f4.heap (f3.heap (f2.heap (f1.heap hb2 (fun f => f)) (fun f => f)) (fun f => f)) (fun f => f))
  go_wp2_with fail
  go_at_call 12
  refine (ks _ g4).mono ?_
  rintro e w5 ⟨rfl, f5⟩
  go_wp2_with fail
  go_ret
  exact ⟨rfl, g4.same f5⟩
end
theorem pr_parts (m : Mo) : (errM rnS cnS m = 0 ∧ prS m = (moT txS m, 0)) ∨ ∃ E, prS m = ([], E) ∧ (E != 0) = true ∧ (E == 0) = false := by
  unfold prS
  by_cases he : errM rnS cnS m = 0
  · rw [if_pos he]
    by_cases h3 : (lexS wordsL valS (moT txS m)).2.2 = 3
    · rw [if_pos h3]
      exact Or.inr ⟨3, rfl, by decide, by decide⟩
    · rw [if_neg h3]
      exact Or.inl ⟨he, rfl⟩
  · rw [if_neg he]
    exact Or.inr ⟨_, rfl, by simpa using he, by simpa using he⟩
theorem treeOneText.walk (v : Value) (a : Mo) (v' : Value) (b : Mo) (w : World) (hva : MoI w a v) (oa : OkM a) (hla : a.name.length + (a.imports.map fun p => p.length + 1).sum + (a.decls.map In.bkD).sum + 1 ≤ 1048576) (hvb : MoI w b v') (ob : OkM b) (hlb : b.name.length + (b.imports.map fun p => p.length + 1).sum + (b.decls.map In.bkD).sum + 1 ≤ 1048576) (ht : F.Tab w) :
    Calls Tryz.prog 4 #[v, v'] w fun e w' => e = .returned (.bool true) ∧ Fr (fun _ => False) w w' := by
  have sa : a.imports.length + Pz.fDs a.decls ≤ 10000000 := by
    have := im_sum a.imports
    have := fDs_bk a.decls
    omega
  have sb : b.imports.length + Pz.fDs b.decls ≤ 10000000 := by
    have := im_sum b.imports
    have := fDs_bk b.decls
    omega
  have kA := fun (w1 : World) (f : Fr (fun _ => False) w w1) => print_up a v w1 oa (hva.keep f) (tab_fr ht f) sa
  have kB := fun (w1 : World) (f : Fr (fun _ => False) w w1) => print_up b v' w1 ob (hvb.keep f) (tab_fr ht f) sb
  have ha0 := hva
  have hb0 := hvb
  obtain ⟨ao, cap, aod, capd, rfl, _, _⟩ := hva
  obtain ⟨bo, bap, bod, bapd, rfl, _, _⟩ := hvb
  rcases pr_parts a with ⟨ea, ha⟩ | ⟨E, ha, h1, h2⟩
  · rw [ha] at kA
    rcases pr_parts b with ⟨eb, hb⟩ | ⟨E, hb, h1, h2⟩
    · rw [hb] at kB
      refine one_both a b ao aod bo bod cap capd bap bapd w ht ha0 hb0 oa _ _ ea ?_ kA kB
      show _ = _
      by_cases hab : a = b
      · subst hab
        simp
      · rw [decide_eq_false hab]
        rw [beq_eq_false_iff_ne]
        intro h
        exact hab (Pz.mod_one lawT kws_in lawI a b ea (fun d hd => nnD_of (oa.decls d hd)) eb (fun d hd => nnD_of (ob.decls d hd)) h)
    · rw [hb] at kB
      exact one_half a b ao aod bo bod cap capd bap bapd w ht ha0 oa _ _ _ h1 ea kA kB
  · rw [ha] at kA
    exact one_bad a b ao aod bo bod cap capd bap bapd w ht E _ _ h1 h2 kA kB
end Go.Proofs.YteijjaabngkbjaaGreatDoor
