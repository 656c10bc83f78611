/- The law TypesValues. -/
import Derived.Test.YtddkmefpfhdliaaDoorTyE2
import Derived.Test.YtddkmefpfhdliaaDoorTrG
namespace Go.Proofs.YtddkmefpfhdliaaDoor.typesValues
open Go.RowKit Ty
set_option linter.unusedSimpArgs false
set_option linter.unusedVariables false

set_option maxRecDepth 20000 in
set_option maxHeartbeats 4000000 in
theorem walk (t : Int) (s : List UInt8) (vt vb ut ub : Int) (w : World) (h0 : (Lit.int .i64 t).wf = true) (hs : s.length ≤ 140737488351232) (hv : I64 vt ∧ U64 vb) (hu : I64 ut ∧ U64 ub) (ht : F.Tab w) :
    Calls Tryd.prog 3 #[.int .i64 t, .string ⟨s.toArray⟩, .agg #[ci vt, .int .u64 vb], .agg #[ci ut, .int .u64 ub]] w fun e w' => e = .returned (.bool true) ∧ Fr (fun _ => False) w w' := by
  have kf := fun w => Ty.find_any s w
  have krf := fun w => Ty.rfind_any s w
  have kn := fun w => name_any t w
  have krn := fun w => rname_any t w
  have kr := fun w => rightv_any vt vb hv.2 w
  have krr := fun w => rrightv_any vt vb hv.2 w
  have ks := fun w => samev_any vt vb ut ub w
  have krs := fun w => rsamev_any vt vb ut ub w
  have kh := fun (w1 : World) (f : Fr (fun _ => False) w w1) => show_any vt vb hv.2 w1 (tab_fr ht f)
  have krh := fun (w1 : World) (f : Fr (fun _ => False) w w1) => rshow_any vt vb hv.2 w1 (tab_fr ht f)
  have kl := fun (w1 : World) (f : Fr (fun _ => False) w w1) => live_any w1 (tab_fr ht f)
  generalize Ty.findS s = R at kf krf
  obtain ⟨R1, R2⟩ := R
  generalize nameS t = nt at kn krn
  generalize rightV vt vb = rv at kr krr
  generalize decide (vt = ut ∧ vb = ub) = sv at ks krs
  generalize showS vt vb = sh at kh krh
  have e1 : (R1 == R1) = true := by simp
  have e2 : (R2 == R2) = true := by simp
  have e3 : (nt == nt) = true := by simp
  have e4 : (rv == rv) = true := by simp
  have e5 : (sv == sv) = true := by simp
  have e6 : (sh == sh) = true := by simp
  obtain ⟨W0, hW0⟩ : ∃ W, W = (w.alloc (.cells #[ci vt, .int .u64 vb] 24)).alloc (.cells #[ci ut, .int .u64 ub] 24) := ⟨_, rfl⟩
  have f0 : Fr (fun _ => False) w W0 := by rw [hW0]; exact (Fr.alloc _ _ _).same (Fr.alloc _ _ _)
  have hb1 : W0.heap[w.heap.size]? = some (.cells #[ci vt, .int .u64 vb] 24 (0, 0)) := by rw [hW0]; exact (Fr.alloc (fun _ => False) _ _).heap (alloc_new _ _) (fun f => f)
  have hb2 : W0.heap[w.heap.size + 1]? = some (.cells #[ci ut, .int .u64 ub] 24 (0, 0)) := by rw [hW0]; exact alloc_at _ _ _ (by simp)
  obtain ⟨c0, c1⟩ := box2 hb1
  obtain ⟨d0, d1⟩ := box2 hb2
  clear hb1 hb2
  have hW0H : Hidden (W0 = _) := hW0
  clear hW0 hv hu h0 hs
  go_enter Tryd.func3, Tryd.ntmps3
  go_wp2_with fail
  rw [← (show W0 = _ from hW0H)]
  go_at_call 8
  refine (kf _).mono ?_
  rintro e w1 ⟨rfl, hw1⟩
  rw [hw1]
  clear hw1
  go_wp2_with fail
  go_at_call 9
  refine (krf _).mono ?_
  rintro e w1 ⟨rfl, hw1⟩
  rw [hw1]
  clear hw1
  go_wp2_with fail
  refine wp_region_grow (by kernel_rfl) (by kernel_rfl) ?_
  (repeat (first | (refine grow_op (v := ?_) ?_ ?_ ?_; rotate_left; (focus (first | exact wanted_none rfl | (go_simp; done))); (focus (intro w' hw'; have c0 := hw'.cellN c0; have c1 := hw'.cellN c1; have d0 := hw'.cellN d0; have d1 := hw'.cellN d1; (go_simp; first | with_reducible rfl | (go_at_call 10; refine calls_grow hw' ?_; first | (have q := (kn w').mono (fun e w'' h => (⟨h.1, h.2 ▸ Fr.refl _ _⟩ : _ ∧ Fr (fun _ => False) w' w'')); with_reducible exact q)) | (go_at_call 11; refine calls_grow hw' ?_; first | (have q := (krn w').mono (fun e w'' h => (⟨h.1, h.2 ▸ Fr.refl _ _⟩ : _ ∧ Fr (fun _ => False) w' w'')); with_reducible exact q)) | (go_at_call 12; refine calls_grow hw' ?_; first | (have q := kr w'; with_reducible exact q)) | (go_at_call 13; refine calls_grow hw' ?_; first | (have q := krr w'; with_reducible exact q)) | (go_at_call 14; refine calls_grow hw' ?_; first | (have q := ks w'; with_reducible exact q)) | (go_at_call 15; refine calls_grow hw' ?_; first | (have q := krs w'; with_reducible exact q)) | (go_at_call 16; refine calls_grow hw' ?_; first | (have q := kh w' (f0.same hw'); with_reducible exact q)) | (go_at_call 17; refine calls_grow hw' ?_; first | (have q := krh w' (f0.same hw'); with_reducible exact q)) | (go_at_call 18; refine calls_grow hw' ?_; first | (have q := kl w' (f0.same hw'); with_reducible exact q))))); (intro a' ha; simp only [Act.put, List.setIfInBounds_toArray, List.set_cons_zero, List.set_cons_succ] at ha; subst ha)) | (refine grow_no ?_ ?_; (focus (go_simp; done)); (intro a' ha; simp only [Act.put, List.setIfInBounds_toArray, List.set_cons_zero, List.set_cons_succ] at ha; subst ha)))); refine grow_nil ?_; intro w1 k1
  go_wp2_with fail
  go_ret
  exact ⟨rfl, f0.same k1⟩
end Go.Proofs.YtddkmefpfhdliaaDoor.typesValues
