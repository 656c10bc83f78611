/- The law TypesItems. -/
import Derived.Test.YtddkmefpfhdliaaDoorTyE2
import Derived.Test.YtddkmefpfhdliaaDoorTyE3
import Derived.Test.YtddkmefpfhdliaaDoorTyIn
namespace Go.Proofs.YtddkmefpfhdliaaDoor.typesItems
open Go.RowKit Ty
set_option linter.unusedSimpArgs false
set_option linter.unusedVariables false

set_option maxRecDepth 20000 in
set_option maxHeartbeats 8000000 in
theorem walk (v1 : Value) (i : It) (v2 : Value) (j : It) (w : World) (hi : ItI w i v1) (oi : OkI i) (hl : bkI i ≤ 1048576) (hj : ItI w j v2) (oj : OkI j) (hl2 : bkI j ≤ 1048576) (ht : F.Tab w) :
    Calls Tryd.prog 5 #[v1, v2] w fun e w' => e = .returned (.bool true) ∧ Fr (fun _ => False) w w' := by
  unfold bkI at hl
  have kl := fun (w1 : World) (f : Fr (fun _ => False) w w1) => live_any w1 (tab_fr ht f)
  have kr := fun (w1 : World) (f : Fr (fun _ => False) w w1) => rightItem_any i v1 w1 (hi.keep f) oi
  have krr := fun (w1 : World) (f : Fr (fun _ => False) w w1) => rrightItem_any i v1 w1 (hi.keep f) oi
  have ks := fun (w1 : World) (f : Fr (fun _ => False) w w1) => sameItem_any i j v1 v2 w1 (hi.keep f) (hj.keep f)
  have krs := fun (w1 : World) (f : Fr (fun _ => False) w w1) => rsameItem_any i j v1 v2 w1 (hi.keep f) (hj.keep f)
  have kx := fun (w1 : World) (f : Fr (fun _ => False) w w1) => text_any i v1 w1 (tab_fr ht f) (hi.keep f) oi (by omega) (by omega)
  have krx := fun (w1 : World) (f : Fr (fun _ => False) w w1) => Ty.rtext_any i v1 w1 (tab_fr ht f) (hi.keep f) oi (by omega) (by omega)
  generalize rightI i = R at kr krr
  generalize decide (i = j) = S at ks krs
  generalize textI i = T at kx krx
  have e1 : (R == R) = true := by simp
  have e2 : (S == S) = true := by simp
  have e3 : (T == T) = true := by simp
  obtain ⟨ao1, cap1, rfl, i1⟩ := hi
  obtain ⟨ao2, cap2, rfl, i2⟩ := hj
  obtain ⟨k1, nm1, t1, b1, ps1⟩ := i
  obtain ⟨k2, nm2, t2, b2, ps2⟩ := j
  simp only [itV] at *
  clear i1 i2 oi oj ht hl hl2
  obtain ⟨W0, hW0⟩ : ∃ W, W = (w.alloc (.cells #[ci k1, ct nm1, ci t1, .int .u64 b1, .slice ao1 ps1.length cap1] 40)).alloc (.cells #[ci k2, ct nm2, ci t2, .int .u64 b2, .slice ao2 ps2.length cap2] 40) := ⟨_, rfl⟩
  have s1 := Fr.alloc (fun _ => False) w (.cells #[ci k1, ct nm1, ci t1, .int .u64 b1, .slice ao1 ps1.length cap1] 40)
  have s2 : Fr (fun _ => False) (w.alloc (.cells #[ci k1, ct nm1, ci t1, .int .u64 b1, .slice ao1 ps1.length cap1] 40)) W0 := by rw [hW0]; exact Fr.alloc _ _ _
  have f0 : Fr (fun _ => False) w W0 := s1.same s2
  have hb1 : W0.heap[w.heap.size]? = some (.cells #[ci k1, ct nm1, ci t1, .int .u64 b1, .slice ao1 ps1.length cap1] 40 (0, 0)) := s2.heap (alloc_new _ _) (fun f => f)
  have hb2 : W0.heap[w.heap.size + 1]? = some (.cells #[ci k2, ct nm2, ci t2, .int .u64 b2, .slice ao2 ps2.length cap2] 40 (0, 0)) := by rw [hW0]; exact alloc_at _ _ _ (by simp)
  obtain ⟨c0, c1, c2, c3, c4⟩ := box5 hb1
  obtain ⟨d0, d1, d2, d3, d4⟩ := box5 hb2
  have hW0H : Hidden (W0 = _) := hW0
  clear hb1 hb2 s1 s2 hW0
  go_enter Tryd.func5, Tryd.ntmps5
  go_wp2_with fail
  rw [← (show W0 = _ from hW0H)]
  refine wp_region_grow (by kernel_rfl) (by kernel_rfl) ?_
  (repeat (first | (refine grow_op (v := ?_) ?_ ?_ ?_; rotate_left; (focus (first | exact wanted_none rfl | (go_simp; done))); (focus (intro w' hw'; have c0 := hw'.cellN c0; have c1 := hw'.cellN c1; have c2 := hw'.cellN c2; have c3 := hw'.cellN c3; have c4 := hw'.cellN c4; have d0 := hw'.cellN d0; have d1 := hw'.cellN d1; have d2 := hw'.cellN d2; have d3 := hw'.cellN d3; have d4 := hw'.cellN d4; (go_simp; first | with_reducible rfl | (go_at_call 23; refine calls_grow hw' ?_; first | (have q := kr w' (f0.same hw'); with_reducible exact q)) | (go_at_call 24; refine calls_grow hw' ?_; first | (have q := krr w' (f0.same hw'); with_reducible exact q)) | (go_at_call 25; refine calls_grow hw' ?_; first | (have q := ks w' (f0.same hw'); with_reducible exact q)) | (go_at_call 26; refine calls_grow hw' ?_; first | (have q := krs w' (f0.same hw'); with_reducible exact q)) | (go_at_call 27; refine calls_grow hw' ?_; first | (have q := kx w' (f0.same hw'); with_reducible exact q)) | (go_at_call 28; refine calls_grow hw' ?_; first | (have q := krx w' (f0.same hw'); with_reducible exact q)) | (go_at_call 18; refine calls_grow hw' ?_; first | (have q := kl w' (f0.same hw'); with_reducible exact q))))); (intro a' ha; simp only [Act.put, List.setIfInBounds_toArray, List.set_cons_zero, List.set_cons_succ] at ha; subst ha)) | (refine grow_no ?_ ?_; (focus (go_simp; done)); (intro a' ha; simp only [Act.put, List.setIfInBounds_toArray, List.set_cons_zero, List.set_cons_succ] at ha; subst ha)))); refine grow_nil ?_; intro w1 k1
  go_wp2_with fail
  go_ret
  exact ⟨rfl, f0.same k1⟩
end Go.Proofs.YtddkmefpfhdliaaDoor.typesItems
