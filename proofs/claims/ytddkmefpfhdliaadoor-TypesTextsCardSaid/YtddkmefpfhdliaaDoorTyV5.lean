/- The law TypesTexts. -/
import Derived.Test.YtddkmefpfhdliaaDoorTyE2
import Derived.Test.YtddkmefpfhdliaaDoorTyP
namespace Go.Proofs.YtddkmefpfhdliaaDoor.typesTexts
open Go.RowKit Ty
set_option linter.unusedSimpArgs false
set_option linter.unusedVariables false

theorem name_32 {s : List UInt8} (h : N.rightS s = 0) : s.length ≤ 32 := by
  unfold N.rightS at h
  cases hs : N.speltS s
  · rw [hs] at h; simp at h
  · rw [hs] at h
    by_cases h32 : 32 < s.length
    · rw [if_pos rfl, if_pos h32] at h; cases h
    · omega
set_option maxRecDepth 20000 in
set_option maxHeartbeats 8000000 in
theorem walk (v1 : Value) (i : It) (v2 : Value) (j : It) (vt vb ut ub : Int) (w : World) (hi : ItI w i v1) (oi : OkI i) (hj : ItI w j v2) (oj : OkI j) (hv : I64 vt ∧ U64 vb) (hu : I64 ut ∧ U64 ub) (ht : F.Tab w) :
    Calls Tryd.prog 7 #[v1, v2, .agg #[ci vt, .int .u64 vb], .agg #[ci ut, .int .u64 ub]] w fun e w' => e = .returned (.bool true) ∧ Fr (fun _ => False) w w' := by
  have kl := fun (w1 : World) (f : Fr (fun _ => False) w w1) => live_any w1 (tab_fr ht f)
  have kr1 := fun (w1 : World) (f : Fr (fun _ => False) w w1) => rightItem_any i v1 w1 (hi.keep f) oi
  have kr2 := fun (w1 : World) (f : Fr (fun _ => False) w w1) => rightItem_any j v2 w1 (hj.keep f) oj
  have ks := fun (w1 : World) (f : Fr (fun _ => False) w w1) => sameItem_any i j v1 v2 w1 (hi.keep f) (hj.keep f)
  have kv := fun w => rightv_any vt vb hv.2 w
  have ku := fun w => rightv_any ut ub hu.2 w
  have kq := fun w => samev_any vt vb ut ub w
  have kh1 := fun (w1 : World) (f : Fr (fun _ => False) w w1) => show_any vt vb hv.2 w1 (tab_fr ht f)
  have kh2 := fun (w1 : World) (f : Fr (fun _ => False) w w1) => show_any ut ub hu.2 w1 (tab_fr ht f)
  -- the items' part
  have hI : (∃ r, rightI i = r ∧ (r == 0) = false) ∨ (rightI i = 0 ∧ ∃ r, rightI j = r ∧ (r == 0) = false) ∨ (rightI i = 0 ∧ rightI j = 0 ∧ (textI i == textI j) = decide (i = j) ∧ i.name.length ≤ 32 ∧ i.params.length ≤ 8 ∧ j.name.length ≤ 32 ∧ j.params.length ≤ 8) := by
    by_cases r1 : rightI i = 0
    · by_cases r2 : rightI j = 0
      · obtain ⟨n1, m1, _⟩ := rightI_parts r1
        obtain ⟨n2, m2, _⟩ := rightI_parts r2
        exact Or.inr (Or.inr ⟨r1, r2, textI_iff r1 r2 oi.bits oj.bits, name_32 n1, m1, name_32 n2, m2⟩)
      · exact Or.inr (Or.inl ⟨r1, _, rfl, by simp [r2]⟩)
    · exact Or.inl ⟨_, rfl, by simp [r1]⟩
  have hV : (rightV vt vb = false ∧ True) ∨ (rightV vt vb = true ∧ rightV ut ub = false ∧ True) ∨ (rightV vt vb = true ∧ rightV ut ub = true ∧ (vt != ut) = true ∧ (vt == ut) = false) ∨ (rightV vt vb = true ∧ rightV ut ub = true ∧ ut = vt ∧ (showS vt vb == showS ut ub) = decide (vt = ut ∧ vb = ub)) := by
    cases r1 : rightV vt vb
    · exact Or.inl ⟨rfl, trivial⟩
    cases r2 : rightV ut ub
    · exact Or.inr (Or.inl ⟨rfl, rfl, trivial⟩)
    by_cases e : vt = ut
    · subst e
      refine Or.inr (Or.inr (Or.inr ⟨rfl, rfl, rfl, ?_⟩))
      rw [Bool.eq_iff_iff, beq_iff_eq, decide_eq_true_eq]
      exact ⟨fun h => ⟨rfl, showS_inj hv.2 hu.2 r1 r2 h⟩, fun h => by rw [h.2]⟩
    · exact Or.inr (Or.inr (Or.inl ⟨rfl, rfl, by simp [e], by simp [e]⟩))
  generalize rightV vt vb = rv at kv hV
  generalize rightV ut ub = ru at ku hV
  generalize decide (vt = ut ∧ vb = ub) = sv at kq hV
  generalize showS vt vb = S1 at kh1 hV
  generalize showS ut ub = S2 at kh2 hV
  have hss : (sv == sv) = true := by simp
  have kx1 := fun (hn : i.name.length ≤ 32) (h8 : i.params.length ≤ 8) (w1 : World) (f : Fr (fun _ => False) w w1) => text_any i v1 w1 (tab_fr ht f) (hi.keep f) oi (by omega) (by omega)
  have kx2 := fun (hn : j.name.length ≤ 32) (h8 : j.params.length ≤ 8) (w1 : World) (f : Fr (fun _ => False) w w1) => text_any j v2 w1 (tab_fr ht f) (hj.keep f) oj (by omega) (by omega)
  generalize rightI i = r1 at kr1 hI
  generalize rightI j = r2 at kr2 hI
  generalize decide (i = j) = sm at ks hI
  generalize textI i = T1 at kx1 hI
  generalize textI j = T2 at kx2 hI
  have hms : (sm != sm) = false := by simp
  obtain ⟨ao1, cap1, rfl, i1⟩ := hi
  obtain ⟨ao2, cap2, rfl, i2⟩ := hj
  obtain ⟨k1, nm1, t1, b1, ps1⟩ := i
  obtain ⟨k2, nm2, t2, b2, ps2⟩ := j
  simp only [itV] at *
  clear i1 i2 oi oj hv hu ht
  obtain ⟨W0, hW0⟩ : ∃ W, W = (((w.alloc (.cells #[ci k1, ct nm1, ci t1, .int .u64 b1, .slice ao1 ps1.length cap1] 40)).alloc (.cells #[ci k2, ct nm2, ci t2, .int .u64 b2, .slice ao2 ps2.length cap2] 40)).alloc (.cells #[ci vt, .int .u64 vb] 24)).alloc (.cells #[ci ut, .int .u64 ub] 24) := ⟨_, rfl⟩
  have s1 := Fr.alloc (fun _ => False) w (.cells #[ci k1, ct nm1, ci t1, .int .u64 b1, .slice ao1 ps1.length cap1] 40)
  have s2 := Fr.alloc (fun _ => False) (w.alloc (.cells #[ci k1, ct nm1, ci t1, .int .u64 b1, .slice ao1 ps1.length cap1] 40)) (.cells #[ci k2, ct nm2, ci t2, .int .u64 b2, .slice ao2 ps2.length cap2] 40)
  have s3 := Fr.alloc (fun _ => False) ((w.alloc (.cells #[ci k1, ct nm1, ci t1, .int .u64 b1, .slice ao1 ps1.length cap1] 40)).alloc (.cells #[ci k2, ct nm2, ci t2, .int .u64 b2, .slice ao2 ps2.length cap2] 40)) (.cells #[ci vt, .int .u64 vb] 24)
  have s4 : Fr (fun _ => False) (((w.alloc (.cells #[ci k1, ct nm1, ci t1, .int .u64 b1, .slice ao1 ps1.length cap1] 40)).alloc (.cells #[ci k2, ct nm2, ci t2, .int .u64 b2, .slice ao2 ps2.length cap2] 40)).alloc (.cells #[ci vt, .int .u64 vb] 24)) W0 := by rw [hW0]; exact Fr.alloc _ _ _
  have f0 : Fr (fun _ => False) w W0 := ((s1.same s2).same s3).same s4
  have hb1 : W0.heap[w.heap.size]? = some (.cells #[ci k1, ct nm1, ci t1, .int .u64 b1, .slice ao1 ps1.length cap1] 40 (0, 0)) := ((s2.same s3).same s4).heap (alloc_new _ _) (fun f => f)
  have hb2 : W0.heap[w.heap.size + 1]? = some (.cells #[ci k2, ct nm2, ci t2, .int .u64 b2, .slice ao2 ps2.length cap2] 40 (0, 0)) := (s3.same s4).heap (alloc_at _ _ _ (by simp)) (fun f => f)
  have hb3 : W0.heap[w.heap.size + 2]? = some (.cells #[ci vt, .int .u64 vb] 24 (0, 0)) := s4.heap (alloc_at _ _ _ (by simp)) (fun f => f)
  have hb4 : W0.heap[w.heap.size + 3]? = some (.cells #[ci ut, .int .u64 ub] 24 (0, 0)) := by rw [hW0]; exact alloc_at _ _ _ (by simp)
  obtain ⟨c0, c1, c2, c3, c4⟩ := box5 hb1
  obtain ⟨d0, d1, d2, d3, d4⟩ := box5 hb2
  obtain ⟨p0, p1⟩ := box2 hb3
  obtain ⟨q0, q1⟩ := box2 hb4
  have hW0H : Hidden (W0 = _) := hW0
  clear hb1 hb2 hb3 hb4 s1 s2 s3 s4 hW0
  rcases hI with ⟨_, rfl, ne1⟩ | ⟨rfl, _, rfl, ne2⟩ | ⟨rfl, rfl, htx, n1, m1, n2, m2⟩
  · clear kx1 kx2
    rcases hV with ⟨rfl, _⟩ | ⟨rfl, rfl, _⟩ | ⟨rfl, rfl, vne, vne2⟩ | ⟨rfl, rfl, rfl, hsh⟩
    · go_enter Tryd.func7, Tryd.ntmps7
      go_wp2_with fail
      rw [← (show W0 = _ from hW0H)]
      go_at_call 18
      refine (kl _ f0).mono ?_
      rintro e w1 ⟨rfl, f1⟩
      have g1 := f0.same f1
      replace c0 := f1.cellN c0
      replace c1 := f1.cellN c1
      replace c2 := f1.cellN c2
      replace c3 := f1.cellN c3
      replace c4 := f1.cellN c4
      replace d0 := f1.cellN d0
      replace d1 := f1.cellN d1
      replace d2 := f1.cellN d2
      replace d3 := f1.cellN d3
      replace d4 := f1.cellN d4
      replace p0 := f1.cellN p0
      replace p1 := f1.cellN p1
      replace q0 := f1.cellN q0
      replace q1 := f1.cellN q1
      go_wp2_with fail
      refine wp_region_grow (by kernel_rfl) (by kernel_rfl) ?_
      (repeat (first | (refine grow_op (v := ?_) ?_ ?_ ?_; rotate_left; (focus (first | exact wanted_none rfl | (go_simp; done))); (focus (intro w' hw'; have c0 := hw'.cellN c0; have c1 := hw'.cellN c1; have c2 := hw'.cellN c2; have c3 := hw'.cellN c3; have c4 := hw'.cellN c4; have d0 := hw'.cellN d0; have d1 := hw'.cellN d1; have d2 := hw'.cellN d2; have d3 := hw'.cellN d3; have d4 := hw'.cellN d4; have p0 := hw'.cellN p0; have p1 := hw'.cellN p1; have q0 := hw'.cellN q0; have q1 := hw'.cellN q1; (go_simp; first | with_reducible rfl | (go_at_call 23; refine calls_grow hw' ?_; first | (have q := kr1 w' (g1.same hw'); with_reducible exact q) | (have q := kr2 w' (g1.same hw'); with_reducible exact q))))); (intro a' ha; simp only [Act.put, List.setIfInBounds_toArray, List.set_cons_zero, List.set_cons_succ] at ha; subst ha)) | (refine grow_no ?_ ?_; (focus (go_simp; done)); (intro a' ha; simp only [Act.put, List.setIfInBounds_toArray, List.set_cons_zero, List.set_cons_succ] at ha; subst ha)))); refine grow_nil ?_; intro w2 f2
      have g2 := g1.same f2
      replace c0 := f2.cellN c0
      replace c1 := f2.cellN c1
      replace c2 := f2.cellN c2
      replace c3 := f2.cellN c3
      replace c4 := f2.cellN c4
      replace d0 := f2.cellN d0
      replace d1 := f2.cellN d1
      replace d2 := f2.cellN d2
      replace d3 := f2.cellN d3
      replace d4 := f2.cellN d4
      replace p0 := f2.cellN p0
      replace p1 := f2.cellN p1
      replace q0 := f2.cellN q0
      replace q1 := f2.cellN q1
      go_wp2_with fail
      go_at_call 12
      refine (kv _).mono ?_
      rintro e w3 ⟨rfl, f3⟩
      have g3 := g2.same f3
      replace c0 := f3.cellN c0
      replace c1 := f3.cellN c1
      replace c2 := f3.cellN c2
      replace c3 := f3.cellN c3
      replace c4 := f3.cellN c4
      replace d0 := f3.cellN d0
      replace d1 := f3.cellN d1
      replace d2 := f3.cellN d2
      replace d3 := f3.cellN d3
      replace d4 := f3.cellN d4
      replace p0 := f3.cellN p0
      replace p1 := f3.cellN p1
      replace q0 := f3.cellN q0
      replace q1 := f3.cellN q1
      go_wp2_with fail
      go_ret
      exact ⟨rfl, g3⟩
    · go_enter Tryd.func7, Tryd.ntmps7
      go_wp2_with fail
      rw [← (show W0 = _ from hW0H)]
      go_at_call 18
      refine (kl _ f0).mono ?_
      rintro e w1 ⟨rfl, f1⟩
      have g1 := f0.same f1
      replace c0 := f1.cellN c0
      replace c1 := f1.cellN c1
      replace c2 := f1.cellN c2
      replace c3 := f1.cellN c3
      replace c4 := f1.cellN c4
      replace d0 := f1.cellN d0
      replace d1 := f1.cellN d1
      replace d2 := f1.cellN d2
      replace d3 := f1.cellN d3
      replace d4 := f1.cellN d4
      replace p0 := f1.cellN p0
      replace p1 := f1.cellN p1
      replace q0 := f1.cellN q0
      replace q1 := f1.cellN q1
      go_wp2_with fail
      refine wp_region_grow (by kernel_rfl) (by kernel_rfl) ?_
      (repeat (first | (refine grow_op (v := ?_) ?_ ?_ ?_; rotate_left; (focus (first | exact wanted_none rfl | (go_simp; done))); (focus (intro w' hw'; have c0 := hw'.cellN c0; have c1 := hw'.cellN c1; have c2 := hw'.cellN c2; have c3 := hw'.cellN c3; have c4 := hw'.cellN c4; have d0 := hw'.cellN d0; have d1 := hw'.cellN d1; have d2 := hw'.cellN d2; have d3 := hw'.cellN d3; have d4 := hw'.cellN d4; have p0 := hw'.cellN p0; have p1 := hw'.cellN p1; have q0 := hw'.cellN q0; have q1 := hw'.cellN q1; (go_simp; first | with_reducible rfl | (go_at_call 23; refine calls_grow hw' ?_; first | (have q := kr1 w' (g1.same hw'); with_reducible exact q) | (have q := kr2 w' (g1.same hw'); with_reducible exact q))))); (intro a' ha; simp only [Act.put, List.setIfInBounds_toArray, List.set_cons_zero, List.set_cons_succ] at ha; subst ha)) | (refine grow_no ?_ ?_; (focus (go_simp; done)); (intro a' ha; simp only [Act.put, List.setIfInBounds_toArray, List.set_cons_zero, List.set_cons_succ] at ha; subst ha)))); refine grow_nil ?_; intro w2 f2
      have g2 := g1.same f2
      replace c0 := f2.cellN c0
      replace c1 := f2.cellN c1
      replace c2 := f2.cellN c2
      replace c3 := f2.cellN c3
      replace c4 := f2.cellN c4
      replace d0 := f2.cellN d0
      replace d1 := f2.cellN d1
      replace d2 := f2.cellN d2
      replace d3 := f2.cellN d3
      replace d4 := f2.cellN d4
      replace p0 := f2.cellN p0
      replace p1 := f2.cellN p1
      replace q0 := f2.cellN q0
      replace q1 := f2.cellN q1
      go_wp2_with fail
      go_at_call 12
      refine (kv _).mono ?_
      rintro e w3 ⟨rfl, f3⟩
      have g3 := g2.same f3
      replace c0 := f3.cellN c0
      replace c1 := f3.cellN c1
      replace c2 := f3.cellN c2
      replace c3 := f3.cellN c3
      replace c4 := f3.cellN c4
      replace d0 := f3.cellN d0
      replace d1 := f3.cellN d1
      replace d2 := f3.cellN d2
      replace d3 := f3.cellN d3
      replace d4 := f3.cellN d4
      replace p0 := f3.cellN p0
      replace p1 := f3.cellN p1
      replace q0 := f3.cellN q0
      replace q1 := f3.cellN q1
      go_wp2_with fail
      go_at_call 12
      refine (ku _).mono ?_
      rintro e w4 ⟨rfl, f4⟩
      have g4 := g3.same f4
      replace c0 := f4.cellN c0
      replace c1 := f4.cellN c1
      replace c2 := f4.cellN c2
      replace c3 := f4.cellN c3
      replace c4 := f4.cellN c4
      replace d0 := f4.cellN d0
      replace d1 := f4.cellN d1
      replace d2 := f4.cellN d2
      replace d3 := f4.cellN d3
      replace d4 := f4.cellN d4
      replace p0 := f4.cellN p0
      replace p1 := f4.cellN p1
      replace q0 := f4.cellN q0
      replace q1 := f4.cellN q1
      go_wp2_with fail
      go_ret
      exact ⟨rfl, g4⟩
    · go_enter Tryd.func7, Tryd.ntmps7
      go_wp2_with fail
      rw [← (show W0 = _ from hW0H)]
      go_at_call 18
      refine (kl _ f0).mono ?_
      rintro e w1 ⟨rfl, f1⟩
      have g1 := f0.same f1
      replace c0 := f1.cellN c0
      replace c1 := f1.cellN c1
      replace c2 := f1.cellN c2
      replace c3 := f1.cellN c3
      replace c4 := f1.cellN c4
      replace d0 := f1.cellN d0
      replace d1 := f1.cellN d1
      replace d2 := f1.cellN d2
      replace d3 := f1.cellN d3
      replace d4 := f1.cellN d4
      replace p0 := f1.cellN p0
      replace p1 := f1.cellN p1
      replace q0 := f1.cellN q0
      replace q1 := f1.cellN q1
      go_wp2_with fail
      refine wp_region_grow (by kernel_rfl) (by kernel_rfl) ?_
      (repeat (first | (refine grow_op (v := ?_) ?_ ?_ ?_; rotate_left; (focus (first | exact wanted_none rfl | (go_simp; done))); (focus (intro w' hw'; have c0 := hw'.cellN c0; have c1 := hw'.cellN c1; have c2 := hw'.cellN c2; have c3 := hw'.cellN c3; have c4 := hw'.cellN c4; have d0 := hw'.cellN d0; have d1 := hw'.cellN d1; have d2 := hw'.cellN d2; have d3 := hw'.cellN d3; have d4 := hw'.cellN d4; have p0 := hw'.cellN p0; have p1 := hw'.cellN p1; have q0 := hw'.cellN q0; have q1 := hw'.cellN q1; (go_simp; first | with_reducible rfl | (go_at_call 23; refine calls_grow hw' ?_; first | (have q := kr1 w' (g1.same hw'); with_reducible exact q) | (have q := kr2 w' (g1.same hw'); with_reducible exact q))))); (intro a' ha; simp only [Act.put, List.setIfInBounds_toArray, List.set_cons_zero, List.set_cons_succ] at ha; subst ha)) | (refine grow_no ?_ ?_; (focus (go_simp; done)); (intro a' ha; simp only [Act.put, List.setIfInBounds_toArray, List.set_cons_zero, List.set_cons_succ] at ha; subst ha)))); refine grow_nil ?_; intro w2 f2
      have g2 := g1.same f2
      replace c0 := f2.cellN c0
      replace c1 := f2.cellN c1
      replace c2 := f2.cellN c2
      replace c3 := f2.cellN c3
      replace c4 := f2.cellN c4
      replace d0 := f2.cellN d0
      replace d1 := f2.cellN d1
      replace d2 := f2.cellN d2
      replace d3 := f2.cellN d3
      replace d4 := f2.cellN d4
      replace p0 := f2.cellN p0
      replace p1 := f2.cellN p1
      replace q0 := f2.cellN q0
      replace q1 := f2.cellN q1
      go_wp2_with fail
      go_at_call 12
      refine (kv _).mono ?_
      rintro e w3 ⟨rfl, f3⟩
      have g3 := g2.same f3
      replace c0 := f3.cellN c0
      replace c1 := f3.cellN c1
      replace c2 := f3.cellN c2
      replace c3 := f3.cellN c3
      replace c4 := f3.cellN c4
      replace d0 := f3.cellN d0
      replace d1 := f3.cellN d1
      replace d2 := f3.cellN d2
      replace d3 := f3.cellN d3
      replace d4 := f3.cellN d4
      replace p0 := f3.cellN p0
      replace p1 := f3.cellN p1
      replace q0 := f3.cellN q0
      replace q1 := f3.cellN q1
      go_wp2_with fail
      go_at_call 12
      refine (ku _).mono ?_
      rintro e w4 ⟨rfl, f4⟩
      have g4 := g3.same f4
      replace c0 := f4.cellN c0
      replace c1 := f4.cellN c1
      replace c2 := f4.cellN c2
      replace c3 := f4.cellN c3
      replace c4 := f4.cellN c4
      replace d0 := f4.cellN d0
      replace d1 := f4.cellN d1
      replace d2 := f4.cellN d2
      replace d3 := f4.cellN d3
      replace d4 := f4.cellN d4
      replace p0 := f4.cellN p0
      replace p1 := f4.cellN p1
      replace q0 := f4.cellN q0
      replace q1 := f4.cellN q1
      go_wp2_with fail
      go_ret
      exact ⟨rfl, g4⟩
    · go_enter Tryd.func7, Tryd.ntmps7
      go_wp2_with fail
      rw [← (show W0 = _ from hW0H)]
      go_at_call 18
      refine (kl _ f0).mono ?_
      rintro e w1 ⟨rfl, f1⟩
      have g1 := f0.same f1
      replace c0 := f1.cellN c0
      replace c1 := f1.cellN c1
      replace c2 := f1.cellN c2
      replace c3 := f1.cellN c3
      replace c4 := f1.cellN c4
      replace d0 := f1.cellN d0
      replace d1 := f1.cellN d1
      replace d2 := f1.cellN d2
      replace d3 := f1.cellN d3
      replace d4 := f1.cellN d4
      replace p0 := f1.cellN p0
      replace p1 := f1.cellN p1
      replace q0 := f1.cellN q0
      replace q1 := f1.cellN q1
      go_wp2_with fail
      refine wp_region_grow (by kernel_rfl) (by kernel_rfl) ?_
      (repeat (first | (refine grow_op (v := ?_) ?_ ?_ ?_; rotate_left; (focus (first | exact wanted_none rfl | (go_simp; done))); (focus (intro w' hw'; have c0 := hw'.cellN c0; have c1 := hw'.cellN c1; have c2 := hw'.cellN c2; have c3 := hw'.cellN c3; have c4 := hw'.cellN c4; have d0 := hw'.cellN d0; have d1 := hw'.cellN d1; have d2 := hw'.cellN d2; have d3 := hw'.cellN d3; have d4 := hw'.cellN d4; have p0 := hw'.cellN p0; have p1 := hw'.cellN p1; have q0 := hw'.cellN q0; have q1 := hw'.cellN q1; (go_simp; first | with_reducible rfl | (go_at_call 23; refine calls_grow hw' ?_; first | (have q := kr1 w' (g1.same hw'); with_reducible exact q) | (have q := kr2 w' (g1.same hw'); with_reducible exact q))))); (intro a' ha; simp only [Act.put, List.setIfInBounds_toArray, List.set_cons_zero, List.set_cons_succ] at ha; subst ha)) | (refine grow_no ?_ ?_; (focus (go_simp; done)); (intro a' ha; simp only [Act.put, List.setIfInBounds_toArray, List.set_cons_zero, List.set_cons_succ] at ha; subst ha)))); refine grow_nil ?_; intro w2 f2
      have g2 := g1.same f2
      replace c0 := f2.cellN c0
      replace c1 := f2.cellN c1
      replace c2 := f2.cellN c2
      replace c3 := f2.cellN c3
      replace c4 := f2.cellN c4
      replace d0 := f2.cellN d0
      replace d1 := f2.cellN d1
      replace d2 := f2.cellN d2
      replace d3 := f2.cellN d3
      replace d4 := f2.cellN d4
      replace p0 := f2.cellN p0
      replace p1 := f2.cellN p1
      replace q0 := f2.cellN q0
      replace q1 := f2.cellN q1
      go_wp2_with fail
      go_at_call 12
      refine (kv _).mono ?_
      rintro e w3 ⟨rfl, f3⟩
      have g3 := g2.same f3
      replace c0 := f3.cellN c0
      replace c1 := f3.cellN c1
      replace c2 := f3.cellN c2
      replace c3 := f3.cellN c3
      replace c4 := f3.cellN c4
      replace d0 := f3.cellN d0
      replace d1 := f3.cellN d1
      replace d2 := f3.cellN d2
      replace d3 := f3.cellN d3
      replace d4 := f3.cellN d4
      replace p0 := f3.cellN p0
      replace p1 := f3.cellN p1
      replace q0 := f3.cellN q0
      replace q1 := f3.cellN q1
      go_wp2_with fail
      go_at_call 12
      refine (ku _).mono ?_
      rintro e w4 ⟨rfl, f4⟩
      have g4 := g3.same f4
      replace c0 := f4.cellN c0
      replace c1 := f4.cellN c1
      replace c2 := f4.cellN c2
      replace c3 := f4.cellN c3
      replace c4 := f4.cellN c4
      replace d0 := f4.cellN d0
      replace d1 := f4.cellN d1
      replace d2 := f4.cellN d2
      replace d3 := f4.cellN d3
      replace d4 := f4.cellN d4
      replace p0 := f4.cellN p0
      replace p1 := f4.cellN p1
      replace q0 := f4.cellN q0
      replace q1 := f4.cellN q1
      go_wp2_with fail
      refine wp_region_grow (by kernel_rfl) (by kernel_rfl) ?_
      (repeat (first | (refine grow_op (v := ?_) ?_ ?_ ?_; rotate_left; (focus (first | exact wanted_none rfl | (go_simp; done))); (focus (intro w' hw'; have c0 := hw'.cellN c0; have c1 := hw'.cellN c1; have c2 := hw'.cellN c2; have c3 := hw'.cellN c3; have c4 := hw'.cellN c4; have d0 := hw'.cellN d0; have d1 := hw'.cellN d1; have d2 := hw'.cellN d2; have d3 := hw'.cellN d3; have d4 := hw'.cellN d4; have p0 := hw'.cellN p0; have p1 := hw'.cellN p1; have q0 := hw'.cellN q0; have q1 := hw'.cellN q1; (go_simp; first | with_reducible rfl | (go_at_call 16; refine calls_grow hw' ?_; first | (have q := kh1 w' (g4.same hw'); with_reducible exact q) | (have q := kh2 w' (g4.same hw'); with_reducible exact q)) | (go_at_call 14; refine calls_grow hw' ?_; first | (have q := kq w'; with_reducible exact q))))); (intro a' ha; simp only [Act.put, List.setIfInBounds_toArray, List.set_cons_zero, List.set_cons_succ] at ha; subst ha)) | (refine grow_no ?_ ?_; (focus (go_simp; done)); (intro a' ha; simp only [Act.put, List.setIfInBounds_toArray, List.set_cons_zero, List.set_cons_succ] at ha; subst ha)))); refine grow_nil ?_; intro w5 f5
      go_wp2_with fail
      go_ret
      exact ⟨rfl, g4.same f5⟩
  · clear kx1 kx2
    rcases hV with ⟨rfl, _⟩ | ⟨rfl, rfl, _⟩ | ⟨rfl, rfl, vne, vne2⟩ | ⟨rfl, rfl, rfl, hsh⟩
    · go_enter Tryd.func7, Tryd.ntmps7
      go_wp2_with fail
      rw [← (show W0 = _ from hW0H)]
      go_at_call 18
      refine (kl _ f0).mono ?_
      rintro e w1 ⟨rfl, f1⟩
      have g1 := f0.same f1
      replace c0 := f1.cellN c0
      replace c1 := f1.cellN c1
      replace c2 := f1.cellN c2
      replace c3 := f1.cellN c3
      replace c4 := f1.cellN c4
      replace d0 := f1.cellN d0
      replace d1 := f1.cellN d1
      replace d2 := f1.cellN d2
      replace d3 := f1.cellN d3
      replace d4 := f1.cellN d4
      replace p0 := f1.cellN p0
      replace p1 := f1.cellN p1
      replace q0 := f1.cellN q0
      replace q1 := f1.cellN q1
      go_wp2_with fail
      refine wp_region_grow (by kernel_rfl) (by kernel_rfl) ?_
      (repeat (first | (refine grow_op (v := ?_) ?_ ?_ ?_; rotate_left; (focus (first | exact wanted_none rfl | (go_simp; done))); (focus (intro w' hw'; have c0 := hw'.cellN c0; have c1 := hw'.cellN c1; have c2 := hw'.cellN c2; have c3 := hw'.cellN c3; have c4 := hw'.cellN c4; have d0 := hw'.cellN d0; have d1 := hw'.cellN d1; have d2 := hw'.cellN d2; have d3 := hw'.cellN d3; have d4 := hw'.cellN d4; have p0 := hw'.cellN p0; have p1 := hw'.cellN p1; have q0 := hw'.cellN q0; have q1 := hw'.cellN q1; (go_simp; first | with_reducible rfl | (go_at_call 23; refine calls_grow hw' ?_; first | (have q := kr1 w' (g1.same hw'); with_reducible exact q) | (have q := kr2 w' (g1.same hw'); with_reducible exact q))))); (intro a' ha; simp only [Act.put, List.setIfInBounds_toArray, List.set_cons_zero, List.set_cons_succ] at ha; subst ha)) | (refine grow_no ?_ ?_; (focus (go_simp; done)); (intro a' ha; simp only [Act.put, List.setIfInBounds_toArray, List.set_cons_zero, List.set_cons_succ] at ha; subst ha)))); refine grow_nil ?_; intro w2 f2
      have g2 := g1.same f2
      replace c0 := f2.cellN c0
      replace c1 := f2.cellN c1
      replace c2 := f2.cellN c2
      replace c3 := f2.cellN c3
      replace c4 := f2.cellN c4
      replace d0 := f2.cellN d0
      replace d1 := f2.cellN d1
      replace d2 := f2.cellN d2
      replace d3 := f2.cellN d3
      replace d4 := f2.cellN d4
      replace p0 := f2.cellN p0
      replace p1 := f2.cellN p1
      replace q0 := f2.cellN q0
      replace q1 := f2.cellN q1
      go_wp2_with fail
      go_at_call 12
      refine (kv _).mono ?_
      rintro e w3 ⟨rfl, f3⟩
      have g3 := g2.same f3
      replace c0 := f3.cellN c0
      replace c1 := f3.cellN c1
      replace c2 := f3.cellN c2
      replace c3 := f3.cellN c3
      replace c4 := f3.cellN c4
      replace d0 := f3.cellN d0
      replace d1 := f3.cellN d1
      replace d2 := f3.cellN d2
      replace d3 := f3.cellN d3
      replace d4 := f3.cellN d4
      replace p0 := f3.cellN p0
      replace p1 := f3.cellN p1
      replace q0 := f3.cellN q0
      replace q1 := f3.cellN q1
      go_wp2_with fail
      go_ret
      exact ⟨rfl, g3⟩
    · go_enter Tryd.func7, Tryd.ntmps7
      go_wp2_with fail
      rw [← (show W0 = _ from hW0H)]
      go_at_call 18
      refine (kl _ f0).mono ?_
      rintro e w1 ⟨rfl, f1⟩
      have g1 := f0.same f1
      replace c0 := f1.cellN c0
      replace c1 := f1.cellN c1
      replace c2 := f1.cellN c2
      replace c3 := f1.cellN c3
      replace c4 := f1.cellN c4
      replace d0 := f1.cellN d0
      replace d1 := f1.cellN d1
      replace d2 := f1.cellN d2
      replace d3 := f1.cellN d3
      replace d4 := f1.cellN d4
      replace p0 := f1.cellN p0
      replace p1 := f1.cellN p1
      replace q0 := f1.cellN q0
      replace q1 := f1.cellN q1
      go_wp2_with fail
      refine wp_region_grow (by kernel_rfl) (by kernel_rfl) ?_
      (repeat (first | (refine grow_op (v := ?_) ?_ ?_ ?_; rotate_left; (focus (first | exact wanted_none rfl | (go_simp; done))); (focus (intro w' hw'; have c0 := hw'.cellN c0; have c1 := hw'.cellN c1; have c2 := hw'.cellN c2; have c3 := hw'.cellN c3; have c4 := hw'.cellN c4; have d0 := hw'.cellN d0; have d1 := hw'.cellN d1; have d2 := hw'.cellN d2; have d3 := hw'.cellN d3; have d4 := hw'.cellN d4; have p0 := hw'.cellN p0; have p1 := hw'.cellN p1; have q0 := hw'.cellN q0; have q1 := hw'.cellN q1; (go_simp; first | with_reducible rfl | (go_at_call 23; refine calls_grow hw' ?_; first | (have q := kr1 w' (g1.same hw'); with_reducible exact q) | (have q := kr2 w' (g1.same hw'); with_reducible exact q))))); (intro a' ha; simp only [Act.put, List.setIfInBounds_toArray, List.set_cons_zero, List.set_cons_succ] at ha; subst ha)) | (refine grow_no ?_ ?_; (focus (go_simp; done)); (intro a' ha; simp only [Act.put, List.setIfInBounds_toArray, List.set_cons_zero, List.set_cons_succ] at ha; subst ha)))); refine grow_nil ?_; intro w2 f2
      have g2 := g1.same f2
      replace c0 := f2.cellN c0
      replace c1 := f2.cellN c1
      replace c2 := f2.cellN c2
      replace c3 := f2.cellN c3
      replace c4 := f2.cellN c4
      replace d0 := f2.cellN d0
      replace d1 := f2.cellN d1
      replace d2 := f2.cellN d2
      replace d3 := f2.cellN d3
      replace d4 := f2.cellN d4
      replace p0 := f2.cellN p0
      replace p1 := f2.cellN p1
      replace q0 := f2.cellN q0
      replace q1 := f2.cellN q1
      go_wp2_with fail
      go_at_call 12
      refine (kv _).mono ?_
      rintro e w3 ⟨rfl, f3⟩
      have g3 := g2.same f3
      replace c0 := f3.cellN c0
      replace c1 := f3.cellN c1
      replace c2 := f3.cellN c2
      replace c3 := f3.cellN c3
      replace c4 := f3.cellN c4
      replace d0 := f3.cellN d0
      replace d1 := f3.cellN d1
      replace d2 := f3.cellN d2
      replace d3 := f3.cellN d3
      replace d4 := f3.cellN d4
      replace p0 := f3.cellN p0
      replace p1 := f3.cellN p1
      replace q0 := f3.cellN q0
      replace q1 := f3.cellN q1
      go_wp2_with fail
      go_at_call 12
      refine (ku _).mono ?_
      rintro e w4 ⟨rfl, f4⟩
      have g4 := g3.same f4
      replace c0 := f4.cellN c0
      replace c1 := f4.cellN c1
      replace c2 := f4.cellN c2
      replace c3 := f4.cellN c3
      replace c4 := f4.cellN c4
      replace d0 := f4.cellN d0
      replace d1 := f4.cellN d1
      replace d2 := f4.cellN d2
      replace d3 := f4.cellN d3
      replace d4 := f4.cellN d4
      replace p0 := f4.cellN p0
      replace p1 := f4.cellN p1
      replace q0 := f4.cellN q0
      replace q1 := f4.cellN q1
      go_wp2_with fail
      go_ret
      exact ⟨rfl, g4⟩
    · go_enter Tryd.func7, Tryd.ntmps7
      go_wp2_with fail
      rw [← (show W0 = _ from hW0H)]
      go_at_call 18
      refine (kl _ f0).mono ?_
      rintro e w1 ⟨rfl, f1⟩
      have g1 := f0.same f1
      replace c0 := f1.cellN c0
      replace c1 := f1.cellN c1
      replace c2 := f1.cellN c2
      replace c3 := f1.cellN c3
      replace c4 := f1.cellN c4
      replace d0 := f1.cellN d0
      replace d1 := f1.cellN d1
      replace d2 := f1.cellN d2
      replace d3 := f1.cellN d3
      replace d4 := f1.cellN d4
      replace p0 := f1.cellN p0
      replace p1 := f1.cellN p1
      replace q0 := f1.cellN q0
      replace q1 := f1.cellN q1
      go_wp2_with fail
      refine wp_region_grow (by kernel_rfl) (by kernel_rfl) ?_
      (repeat (first | (refine grow_op (v := ?_) ?_ ?_ ?_; rotate_left; (focus (first | exact wanted_none rfl | (go_simp; done))); (focus (intro w' hw'; have c0 := hw'.cellN c0; have c1 := hw'.cellN c1; have c2 := hw'.cellN c2; have c3 := hw'.cellN c3; have c4 := hw'.cellN c4; have d0 := hw'.cellN d0; have d1 := hw'.cellN d1; have d2 := hw'.cellN d2; have d3 := hw'.cellN d3; have d4 := hw'.cellN d4; have p0 := hw'.cellN p0; have p1 := hw'.cellN p1; have q0 := hw'.cellN q0; have q1 := hw'.cellN q1; (go_simp; first | with_reducible rfl | (go_at_call 23; refine calls_grow hw' ?_; first | (have q := kr1 w' (g1.same hw'); with_reducible exact q) | (have q := kr2 w' (g1.same hw'); with_reducible exact q))))); (intro a' ha; simp only [Act.put, List.setIfInBounds_toArray, List.set_cons_zero, List.set_cons_succ] at ha; subst ha)) | (refine grow_no ?_ ?_; (focus (go_simp; done)); (intro a' ha; simp only [Act.put, List.setIfInBounds_toArray, List.set_cons_zero, List.set_cons_succ] at ha; subst ha)))); refine grow_nil ?_; intro w2 f2
      have g2 := g1.same f2
      replace c0 := f2.cellN c0
      replace c1 := f2.cellN c1
      replace c2 := f2.cellN c2
      replace c3 := f2.cellN c3
      replace c4 := f2.cellN c4
      replace d0 := f2.cellN d0
      replace d1 := f2.cellN d1
      replace d2 := f2.cellN d2
      replace d3 := f2.cellN d3
      replace d4 := f2.cellN d4
      replace p0 := f2.cellN p0
      replace p1 := f2.cellN p1
      replace q0 := f2.cellN q0
      replace q1 := f2.cellN q1
      go_wp2_with fail
      go_at_call 12
      refine (kv _).mono ?_
      rintro e w3 ⟨rfl, f3⟩
      have g3 := g2.same f3
      replace c0 := f3.cellN c0
      replace c1 := f3.cellN c1
      replace c2 := f3.cellN c2
      replace c3 := f3.cellN c3
      replace c4 := f3.cellN c4
      replace d0 := f3.cellN d0
      replace d1 := f3.cellN d1
      replace d2 := f3.cellN d2
      replace d3 := f3.cellN d3
      replace d4 := f3.cellN d4
      replace p0 := f3.cellN p0
      replace p1 := f3.cellN p1
      replace q0 := f3.cellN q0
      replace q1 := f3.cellN q1
      go_wp2_with fail
      go_at_call 12
      refine (ku _).mono ?_
      rintro e w4 ⟨rfl, f4⟩
      have g4 := g3.same f4
      replace c0 := f4.cellN c0
      replace c1 := f4.cellN c1
      replace c2 := f4.cellN c2
      replace c3 := f4.cellN c3
      replace c4 := f4.cellN c4
      replace d0 := f4.cellN d0
      replace d1 := f4.cellN d1
      replace d2 := f4.cellN d2
      replace d3 := f4.cellN d3
      replace d4 := f4.cellN d4
      replace p0 := f4.cellN p0
      replace p1 := f4.cellN p1
      replace q0 := f4.cellN q0
      replace q1 := f4.cellN q1
      go_wp2_with fail
      go_ret
      exact ⟨rfl, g4⟩
    · go_enter Tryd.func7, Tryd.ntmps7
      go_wp2_with fail
      rw [← (show W0 = _ from hW0H)]
      go_at_call 18
      refine (kl _ f0).mono ?_
      rintro e w1 ⟨rfl, f1⟩
      have g1 := f0.same f1
      replace c0 := f1.cellN c0
      replace c1 := f1.cellN c1
      replace c2 := f1.cellN c2
      replace c3 := f1.cellN c3
      replace c4 := f1.cellN c4
      replace d0 := f1.cellN d0
      replace d1 := f1.cellN d1
      replace d2 := f1.cellN d2
      replace d3 := f1.cellN d3
      replace d4 := f1.cellN d4
      replace p0 := f1.cellN p0
      replace p1 := f1.cellN p1
      replace q0 := f1.cellN q0
      replace q1 := f1.cellN q1
      go_wp2_with fail
      refine wp_region_grow (by kernel_rfl) (by kernel_rfl) ?_
      (repeat (first | (refine grow_op (v := ?_) ?_ ?_ ?_; rotate_left; (focus (first | exact wanted_none rfl | (go_simp; done))); (focus (intro w' hw'; have c0 := hw'.cellN c0; have c1 := hw'.cellN c1; have c2 := hw'.cellN c2; have c3 := hw'.cellN c3; have c4 := hw'.cellN c4; have d0 := hw'.cellN d0; have d1 := hw'.cellN d1; have d2 := hw'.cellN d2; have d3 := hw'.cellN d3; have d4 := hw'.cellN d4; have p0 := hw'.cellN p0; have p1 := hw'.cellN p1; have q0 := hw'.cellN q0; have q1 := hw'.cellN q1; (go_simp; first | with_reducible rfl | (go_at_call 23; refine calls_grow hw' ?_; first | (have q := kr1 w' (g1.same hw'); with_reducible exact q) | (have q := kr2 w' (g1.same hw'); with_reducible exact q))))); (intro a' ha; simp only [Act.put, List.setIfInBounds_toArray, List.set_cons_zero, List.set_cons_succ] at ha; subst ha)) | (refine grow_no ?_ ?_; (focus (go_simp; done)); (intro a' ha; simp only [Act.put, List.setIfInBounds_toArray, List.set_cons_zero, List.set_cons_succ] at ha; subst ha)))); refine grow_nil ?_; intro w2 f2
      have g2 := g1.same f2
      replace c0 := f2.cellN c0
      replace c1 := f2.cellN c1
      replace c2 := f2.cellN c2
      replace c3 := f2.cellN c3
      replace c4 := f2.cellN c4
      replace d0 := f2.cellN d0
      replace d1 := f2.cellN d1
      replace d2 := f2.cellN d2
      replace d3 := f2.cellN d3
      replace d4 := f2.cellN d4
      replace p0 := f2.cellN p0
      replace p1 := f2.cellN p1
      replace q0 := f2.cellN q0
      replace q1 := f2.cellN q1
      go_wp2_with fail
      go_at_call 12
      refine (kv _).mono ?_
      rintro e w3 ⟨rfl, f3⟩
      have g3 := g2.same f3
      replace c0 := f3.cellN c0
      replace c1 := f3.cellN c1
      replace c2 := f3.cellN c2
      replace c3 := f3.cellN c3
      replace c4 := f3.cellN c4
      replace d0 := f3.cellN d0
      replace d1 := f3.cellN d1
      replace d2 := f3.cellN d2
      replace d3 := f3.cellN d3
      replace d4 := f3.cellN d4
      replace p0 := f3.cellN p0
      replace p1 := f3.cellN p1
      replace q0 := f3.cellN q0
      replace q1 := f3.cellN q1
      go_wp2_with fail
      go_at_call 12
      refine (ku _).mono ?_
      rintro e w4 ⟨rfl, f4⟩
      have g4 := g3.same f4
      replace c0 := f4.cellN c0
      replace c1 := f4.cellN c1
      replace c2 := f4.cellN c2
      replace c3 := f4.cellN c3
      replace c4 := f4.cellN c4
      replace d0 := f4.cellN d0
      replace d1 := f4.cellN d1
      replace d2 := f4.cellN d2
      replace d3 := f4.cellN d3
      replace d4 := f4.cellN d4
      replace p0 := f4.cellN p0
      replace p1 := f4.cellN p1
      replace q0 := f4.cellN q0
      replace q1 := f4.cellN q1
      go_wp2_with fail
      refine wp_region_grow (by kernel_rfl) (by kernel_rfl) ?_
      (repeat (first | (refine grow_op (v := ?_) ?_ ?_ ?_; rotate_left; (focus (first | exact wanted_none rfl | (go_simp; done))); (focus (intro w' hw'; have c0 := hw'.cellN c0; have c1 := hw'.cellN c1; have c2 := hw'.cellN c2; have c3 := hw'.cellN c3; have c4 := hw'.cellN c4; have d0 := hw'.cellN d0; have d1 := hw'.cellN d1; have d2 := hw'.cellN d2; have d3 := hw'.cellN d3; have d4 := hw'.cellN d4; have p0 := hw'.cellN p0; have p1 := hw'.cellN p1; have q0 := hw'.cellN q0; have q1 := hw'.cellN q1; (go_simp; first | with_reducible rfl | (go_at_call 16; refine calls_grow hw' ?_; first | (have q := kh1 w' (g4.same hw'); with_reducible exact q) | (have q := kh2 w' (g4.same hw'); with_reducible exact q)) | (go_at_call 14; refine calls_grow hw' ?_; first | (have q := kq w'; with_reducible exact q))))); (intro a' ha; simp only [Act.put, List.setIfInBounds_toArray, List.set_cons_zero, List.set_cons_succ] at ha; subst ha)) | (refine grow_no ?_ ?_; (focus (go_simp; done)); (intro a' ha; simp only [Act.put, List.setIfInBounds_toArray, List.set_cons_zero, List.set_cons_succ] at ha; subst ha)))); refine grow_nil ?_; intro w5 f5
      go_wp2_with fail
      go_ret
      exact ⟨rfl, g4.same f5⟩
  · replace kx1 := kx1 n1 m1
    replace kx2 := kx2 n2 m2
    clear n1 m1 n2 m2
    rcases hV with ⟨rfl, _⟩ | ⟨rfl, rfl, _⟩ | ⟨rfl, rfl, vne, vne2⟩ | ⟨rfl, rfl, rfl, hsh⟩
    · go_enter Tryd.func7, Tryd.ntmps7
      go_wp2_with fail
      rw [← (show W0 = _ from hW0H)]
      go_at_call 18
      refine (kl _ f0).mono ?_
      rintro e w1 ⟨rfl, f1⟩
      have g1 := f0.same f1
      replace c0 := f1.cellN c0
      replace c1 := f1.cellN c1
      replace c2 := f1.cellN c2
      replace c3 := f1.cellN c3
      replace c4 := f1.cellN c4
      replace d0 := f1.cellN d0
      replace d1 := f1.cellN d1
      replace d2 := f1.cellN d2
      replace d3 := f1.cellN d3
      replace d4 := f1.cellN d4
      replace p0 := f1.cellN p0
      replace p1 := f1.cellN p1
      replace q0 := f1.cellN q0
      replace q1 := f1.cellN q1
      go_wp2_with fail
      refine wp_region_grow (by kernel_rfl) (by kernel_rfl) ?_
      (repeat (first | (refine grow_op (v := ?_) ?_ ?_ ?_; rotate_left; (focus (first | exact wanted_none rfl | (go_simp; done))); (focus (intro w' hw'; have c0 := hw'.cellN c0; have c1 := hw'.cellN c1; have c2 := hw'.cellN c2; have c3 := hw'.cellN c3; have c4 := hw'.cellN c4; have d0 := hw'.cellN d0; have d1 := hw'.cellN d1; have d2 := hw'.cellN d2; have d3 := hw'.cellN d3; have d4 := hw'.cellN d4; have p0 := hw'.cellN p0; have p1 := hw'.cellN p1; have q0 := hw'.cellN q0; have q1 := hw'.cellN q1; (go_simp; first | with_reducible rfl | (go_at_call 23; refine calls_grow hw' ?_; first | (have q := kr1 w' (g1.same hw'); with_reducible exact q) | (have q := kr2 w' (g1.same hw'); with_reducible exact q)) | (go_at_call 27; refine calls_grow hw' ?_; first | (have q := kx1 w' (g1.same hw'); with_reducible exact q) | (have q := kx2 w' (g1.same hw'); with_reducible exact q)) | (go_at_call 25; refine calls_grow hw' ?_; first | (have q := ks w' (g1.same hw'); with_reducible exact q))))); (intro a' ha; simp only [Act.put, List.setIfInBounds_toArray, List.set_cons_zero, List.set_cons_succ] at ha; subst ha)) | (refine grow_no ?_ ?_; (focus (go_simp; done)); (intro a' ha; simp only [Act.put, List.setIfInBounds_toArray, List.set_cons_zero, List.set_cons_succ] at ha; subst ha)))); refine grow_nil ?_; intro w2 f2
      have g2 := g1.same f2
      replace c0 := f2.cellN c0
      replace c1 := f2.cellN c1
      replace c2 := f2.cellN c2
      replace c3 := f2.cellN c3
      replace c4 := f2.cellN c4
      replace d0 := f2.cellN d0
      replace d1 := f2.cellN d1
      replace d2 := f2.cellN d2
      replace d3 := f2.cellN d3
      replace d4 := f2.cellN d4
      replace p0 := f2.cellN p0
      replace p1 := f2.cellN p1
      replace q0 := f2.cellN q0
      replace q1 := f2.cellN q1
      go_wp2_with fail
      go_at_call 12
      refine (kv _).mono ?_
      rintro e w3 ⟨rfl, f3⟩
      have g3 := g2.same f3
      replace c0 := f3.cellN c0
      replace c1 := f3.cellN c1
      replace c2 := f3.cellN c2
      replace c3 := f3.cellN c3
      replace c4 := f3.cellN c4
      replace d0 := f3.cellN d0
      replace d1 := f3.cellN d1
      replace d2 := f3.cellN d2
      replace d3 := f3.cellN d3
      replace d4 := f3.cellN d4
      replace p0 := f3.cellN p0
      replace p1 := f3.cellN p1
      replace q0 := f3.cellN q0
      replace q1 := f3.cellN q1
      go_wp2_with fail
      go_ret
      exact ⟨rfl, g3⟩
    · go_enter Tryd.func7, Tryd.ntmps7
      go_wp2_with fail
      rw [← (show W0 = _ from hW0H)]
      go_at_call 18
      refine (kl _ f0).mono ?_
      rintro e w1 ⟨rfl, f1⟩
      have g1 := f0.same f1
      replace c0 := f1.cellN c0
      replace c1 := f1.cellN c1
      replace c2 := f1.cellN c2
      replace c3 := f1.cellN c3
      replace c4 := f1.cellN c4
      replace d0 := f1.cellN d0
      replace d1 := f1.cellN d1
      replace d2 := f1.cellN d2
      replace d3 := f1.cellN d3
      replace d4 := f1.cellN d4
      replace p0 := f1.cellN p0
      replace p1 := f1.cellN p1
      replace q0 := f1.cellN q0
      replace q1 := f1.cellN q1
      go_wp2_with fail
      refine wp_region_grow (by kernel_rfl) (by kernel_rfl) ?_
      (repeat (first | (refine grow_op (v := ?_) ?_ ?_ ?_; rotate_left; (focus (first | exact wanted_none rfl | (go_simp; done))); (focus (intro w' hw'; have c0 := hw'.cellN c0; have c1 := hw'.cellN c1; have c2 := hw'.cellN c2; have c3 := hw'.cellN c3; have c4 := hw'.cellN c4; have d0 := hw'.cellN d0; have d1 := hw'.cellN d1; have d2 := hw'.cellN d2; have d3 := hw'.cellN d3; have d4 := hw'.cellN d4; have p0 := hw'.cellN p0; have p1 := hw'.cellN p1; have q0 := hw'.cellN q0; have q1 := hw'.cellN q1; (go_simp; first | with_reducible rfl | (go_at_call 23; refine calls_grow hw' ?_; first | (have q := kr1 w' (g1.same hw'); with_reducible exact q) | (have q := kr2 w' (g1.same hw'); with_reducible exact q)) | (go_at_call 27; refine calls_grow hw' ?_; first | (have q := kx1 w' (g1.same hw'); with_reducible exact q) | (have q := kx2 w' (g1.same hw'); with_reducible exact q)) | (go_at_call 25; refine calls_grow hw' ?_; first | (have q := ks w' (g1.same hw'); with_reducible exact q))))); (intro a' ha; simp only [Act.put, List.setIfInBounds_toArray, List.set_cons_zero, List.set_cons_succ] at ha; subst ha)) | (refine grow_no ?_ ?_; (focus (go_simp; done)); (intro a' ha; simp only [Act.put, List.setIfInBounds_toArray, List.set_cons_zero, List.set_cons_succ] at ha; subst ha)))); refine grow_nil ?_; intro w2 f2
      have g2 := g1.same f2
      replace c0 := f2.cellN c0
      replace c1 := f2.cellN c1
      replace c2 := f2.cellN c2
      replace c3 := f2.cellN c3
      replace c4 := f2.cellN c4
      replace d0 := f2.cellN d0
      replace d1 := f2.cellN d1
      replace d2 := f2.cellN d2
      replace d3 := f2.cellN d3
      replace d4 := f2.cellN d4
      replace p0 := f2.cellN p0
      replace p1 := f2.cellN p1
      replace q0 := f2.cellN q0
      replace q1 := f2.cellN q1
      go_wp2_with fail
      go_at_call 12
      refine (kv _).mono ?_
      rintro e w3 ⟨rfl, f3⟩
      have g3 := g2.same f3
      replace c0 := f3.cellN c0
      replace c1 := f3.cellN c1
      replace c2 := f3.cellN c2
      replace c3 := f3.cellN c3
      replace c4 := f3.cellN c4
      replace d0 := f3.cellN d0
      replace d1 := f3.cellN d1
      replace d2 := f3.cellN d2
      replace d3 := f3.cellN d3
      replace d4 := f3.cellN d4
      replace p0 := f3.cellN p0
      replace p1 := f3.cellN p1
      replace q0 := f3.cellN q0
      replace q1 := f3.cellN q1
      go_wp2_with fail
      go_at_call 12
      refine (ku _).mono ?_
      rintro e w4 ⟨rfl, f4⟩
      have g4 := g3.same f4
      replace c0 := f4.cellN c0
      replace c1 := f4.cellN c1
      replace c2 := f4.cellN c2
      replace c3 := f4.cellN c3
      replace c4 := f4.cellN c4
      replace d0 := f4.cellN d0
      replace d1 := f4.cellN d1
      replace d2 := f4.cellN d2
      replace d3 := f4.cellN d3
      replace d4 := f4.cellN d4
      replace p0 := f4.cellN p0
      replace p1 := f4.cellN p1
      replace q0 := f4.cellN q0
      replace q1 := f4.cellN q1
      go_wp2_with fail
      go_ret
      exact ⟨rfl, g4⟩
    · go_enter Tryd.func7, Tryd.ntmps7
      go_wp2_with fail
      rw [← (show W0 = _ from hW0H)]
      go_at_call 18
      refine (kl _ f0).mono ?_
      rintro e w1 ⟨rfl, f1⟩
      have g1 := f0.same f1
      replace c0 := f1.cellN c0
      replace c1 := f1.cellN c1
      replace c2 := f1.cellN c2
      replace c3 := f1.cellN c3
      replace c4 := f1.cellN c4
      replace d0 := f1.cellN d0
      replace d1 := f1.cellN d1
      replace d2 := f1.cellN d2
      replace d3 := f1.cellN d3
      replace d4 := f1.cellN d4
      replace p0 := f1.cellN p0
      replace p1 := f1.cellN p1
      replace q0 := f1.cellN q0
      replace q1 := f1.cellN q1
      go_wp2_with fail
      refine wp_region_grow (by kernel_rfl) (by kernel_rfl) ?_
      (repeat (first | (refine grow_op (v := ?_) ?_ ?_ ?_; rotate_left; (focus (first | exact wanted_none rfl | (go_simp; done))); (focus (intro w' hw'; have c0 := hw'.cellN c0; have c1 := hw'.cellN c1; have c2 := hw'.cellN c2; have c3 := hw'.cellN c3; have c4 := hw'.cellN c4; have d0 := hw'.cellN d0; have d1 := hw'.cellN d1; have d2 := hw'.cellN d2; have d3 := hw'.cellN d3; have d4 := hw'.cellN d4; have p0 := hw'.cellN p0; have p1 := hw'.cellN p1; have q0 := hw'.cellN q0; have q1 := hw'.cellN q1; (go_simp; first | with_reducible rfl | (go_at_call 23; refine calls_grow hw' ?_; first | (have q := kr1 w' (g1.same hw'); with_reducible exact q) | (have q := kr2 w' (g1.same hw'); with_reducible exact q)) | (go_at_call 27; refine calls_grow hw' ?_; first | (have q := kx1 w' (g1.same hw'); with_reducible exact q) | (have q := kx2 w' (g1.same hw'); with_reducible exact q)) | (go_at_call 25; refine calls_grow hw' ?_; first | (have q := ks w' (g1.same hw'); with_reducible exact q))))); (intro a' ha; simp only [Act.put, List.setIfInBounds_toArray, List.set_cons_zero, List.set_cons_succ] at ha; subst ha)) | (refine grow_no ?_ ?_; (focus (go_simp; done)); (intro a' ha; simp only [Act.put, List.setIfInBounds_toArray, List.set_cons_zero, List.set_cons_succ] at ha; subst ha)))); refine grow_nil ?_; intro w2 f2
      have g2 := g1.same f2
      replace c0 := f2.cellN c0
      replace c1 := f2.cellN c1
      replace c2 := f2.cellN c2
      replace c3 := f2.cellN c3
      replace c4 := f2.cellN c4
      replace d0 := f2.cellN d0
      replace d1 := f2.cellN d1
      replace d2 := f2.cellN d2
      replace d3 := f2.cellN d3
      replace d4 := f2.cellN d4
      replace p0 := f2.cellN p0
      replace p1 := f2.cellN p1
      replace q0 := f2.cellN q0
      replace q1 := f2.cellN q1
      go_wp2_with fail
      go_at_call 12
      refine (kv _).mono ?_
      rintro e w3 ⟨rfl, f3⟩
      have g3 := g2.same f3
      replace c0 := f3.cellN c0
      replace c1 := f3.cellN c1
      replace c2 := f3.cellN c2
      replace c3 := f3.cellN c3
      replace c4 := f3.cellN c4
      replace d0 := f3.cellN d0
      replace d1 := f3.cellN d1
      replace d2 := f3.cellN d2
      replace d3 := f3.cellN d3
      replace d4 := f3.cellN d4
      replace p0 := f3.cellN p0
      replace p1 := f3.cellN p1
      replace q0 := f3.cellN q0
      replace q1 := f3.cellN q1
      go_wp2_with fail
      go_at_call 12
      refine (ku _).mono ?_
      rintro e w4 ⟨rfl, f4⟩
      have g4 := g3.same f4
      replace c0 := f4.cellN c0
      replace c1 := f4.cellN c1
      replace c2 := f4.cellN c2
      replace c3 := f4.cellN c3
      replace c4 := f4.cellN c4
      replace d0 := f4.cellN d0
      replace d1 := f4.cellN d1
      replace d2 := f4.cellN d2
      replace d3 := f4.cellN d3
      replace d4 := f4.cellN d4
      replace p0 := f4.cellN p0
      replace p1 := f4.cellN p1
      replace q0 := f4.cellN q0
      replace q1 := f4.cellN q1
      go_wp2_with fail
      go_ret
      exact ⟨rfl, g4⟩
    · go_enter Tryd.func7, Tryd.ntmps7
      go_wp2_with fail
      rw [← (show W0 = _ from hW0H)]
      go_at_call 18
      refine (kl _ f0).mono ?_
      rintro e w1 ⟨rfl, f1⟩
      have g1 := f0.same f1
      replace c0 := f1.cellN c0
      replace c1 := f1.cellN c1
      replace c2 := f1.cellN c2
      replace c3 := f1.cellN c3
      replace c4 := f1.cellN c4
      replace d0 := f1.cellN d0
      replace d1 := f1.cellN d1
      replace d2 := f1.cellN d2
      replace d3 := f1.cellN d3
      replace d4 := f1.cellN d4
      replace p0 := f1.cellN p0
      replace p1 := f1.cellN p1
      replace q0 := f1.cellN q0
      replace q1 := f1.cellN q1
      go_wp2_with fail
      refine wp_region_grow (by kernel_rfl) (by kernel_rfl) ?_
      (repeat (first | (refine grow_op (v := ?_) ?_ ?_ ?_; rotate_left; (focus (first | exact wanted_none rfl | (go_simp; done))); (focus (intro w' hw'; have c0 := hw'.cellN c0; have c1 := hw'.cellN c1; have c2 := hw'.cellN c2; have c3 := hw'.cellN c3; have c4 := hw'.cellN c4; have d0 := hw'.cellN d0; have d1 := hw'.cellN d1; have d2 := hw'.cellN d2; have d3 := hw'.cellN d3; have d4 := hw'.cellN d4; have p0 := hw'.cellN p0; have p1 := hw'.cellN p1; have q0 := hw'.cellN q0; have q1 := hw'.cellN q1; (go_simp; first | with_reducible rfl | (go_at_call 23; refine calls_grow hw' ?_; first | (have q := kr1 w' (g1.same hw'); with_reducible exact q) | (have q := kr2 w' (g1.same hw'); with_reducible exact q)) | (go_at_call 27; refine calls_grow hw' ?_; first | (have q := kx1 w' (g1.same hw'); with_reducible exact q) | (have q := kx2 w' (g1.same hw'); with_reducible exact q)) | (go_at_call 25; refine calls_grow hw' ?_; first | (have q := ks w' (g1.same hw'); with_reducible exact q))))); (intro a' ha; simp only [Act.put, List.setIfInBounds_toArray, List.set_cons_zero, List.set_cons_succ] at ha; subst ha)) | (refine grow_no ?_ ?_; (focus (go_simp; done)); (intro a' ha; simp only [Act.put, List.setIfInBounds_toArray, List.set_cons_zero, List.set_cons_succ] at ha; subst ha)))); refine grow_nil ?_; intro w2 f2
      have g2 := g1.same f2
      replace c0 := f2.cellN c0
      replace c1 := f2.cellN c1
      replace c2 := f2.cellN c2
      replace c3 := f2.cellN c3
      replace c4 := f2.cellN c4
      replace d0 := f2.cellN d0
      replace d1 := f2.cellN d1
      replace d2 := f2.cellN d2
      replace d3 := f2.cellN d3
      replace d4 := f2.cellN d4
      replace p0 := f2.cellN p0
      replace p1 := f2.cellN p1
      replace q0 := f2.cellN q0
      replace q1 := f2.cellN q1
      go_wp2_with fail
      go_at_call 12
      refine (kv _).mono ?_
      rintro e w3 ⟨rfl, f3⟩
      have g3 := g2.same f3
      replace c0 := f3.cellN c0
      replace c1 := f3.cellN c1
      replace c2 := f3.cellN c2
      replace c3 := f3.cellN c3
      replace c4 := f3.cellN c4
      replace d0 := f3.cellN d0
      replace d1 := f3.cellN d1
      replace d2 := f3.cellN d2
      replace d3 := f3.cellN d3
      replace d4 := f3.cellN d4
      replace p0 := f3.cellN p0
      replace p1 := f3.cellN p1
      replace q0 := f3.cellN q0
      replace q1 := f3.cellN q1
      go_wp2_with fail
      go_at_call 12
      refine (ku _).mono ?_
      rintro e w4 ⟨rfl, f4⟩
      have g4 := g3.same f4
      replace c0 := f4.cellN c0
      replace c1 := f4.cellN c1
      replace c2 := f4.cellN c2
      replace c3 := f4.cellN c3
      replace c4 := f4.cellN c4
      replace d0 := f4.cellN d0
      replace d1 := f4.cellN d1
      replace d2 := f4.cellN d2
      replace d3 := f4.cellN d3
      replace d4 := f4.cellN d4
      replace p0 := f4.cellN p0
      replace p1 := f4.cellN p1
      replace q0 := f4.cellN q0
      replace q1 := f4.cellN q1
      go_wp2_with fail
      refine wp_region_grow (by kernel_rfl) (by kernel_rfl) ?_
      (repeat (first | (refine grow_op (v := ?_) ?_ ?_ ?_; rotate_left; (focus (first | exact wanted_none rfl | (go_simp; done))); (focus (intro w' hw'; have c0 := hw'.cellN c0; have c1 := hw'.cellN c1; have c2 := hw'.cellN c2; have c3 := hw'.cellN c3; have c4 := hw'.cellN c4; have d0 := hw'.cellN d0; have d1 := hw'.cellN d1; have d2 := hw'.cellN d2; have d3 := hw'.cellN d3; have d4 := hw'.cellN d4; have p0 := hw'.cellN p0; have p1 := hw'.cellN p1; have q0 := hw'.cellN q0; have q1 := hw'.cellN q1; (go_simp; first | with_reducible rfl | (go_at_call 16; refine calls_grow hw' ?_; first | (have q := kh1 w' (g4.same hw'); with_reducible exact q) | (have q := kh2 w' (g4.same hw'); with_reducible exact q)) | (go_at_call 14; refine calls_grow hw' ?_; first | (have q := kq w'; with_reducible exact q))))); (intro a' ha; simp only [Act.put, List.setIfInBounds_toArray, List.set_cons_zero, List.set_cons_succ] at ha; subst ha)) | (refine grow_no ?_ ?_; (focus (go_simp; done)); (intro a' ha; simp only [Act.put, List.setIfInBounds_toArray, List.set_cons_zero, List.set_cons_succ] at ha; subst ha)))); refine grow_nil ?_; intro w5 f5
      go_wp2_with fail
      go_ret
      exact ⟨rfl, g4.same f5⟩
end Go.Proofs.YtddkmefpfhdliaaDoor.typesTexts
