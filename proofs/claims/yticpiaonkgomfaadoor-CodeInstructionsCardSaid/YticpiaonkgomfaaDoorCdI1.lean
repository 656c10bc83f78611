/- CodeInstructions, walked. -/
import Derived.Test.YticpiaonkgomfaaDoorCdTr
namespace Go.Proofs.YticpiaonkgomfaaDoor.Cd
open Go.RowKit Ty
set_option linter.unusedSimpArgs false
set_option linter.unusedVariables false
set_option maxRecDepth 20000 in
set_option maxHeartbeats 4000000 in
theorem instr_walk (x : In) (hx : OkIn x) (W : World) (ht : F.Tab W) : Calls Tryd.prog 3 #[inV x] W fun e w' => e = .returned (.bool true) ∧ Fr (fun _ => False) W w' := by
  have k1 := fun w => right_any x hx.b w
  have k2 := fun w => rright_any x hx.b w
  have k3 := fun w => size_any x w
  have k4 := fun w => rsize_any x w
  have hol := operS_len x hx.b hx.n
  have k5 := fun w (f : Fr (fun _ => False) W w) => text_any x hx.b hx.n hol w (tab_fr ht f)
  have k6 := fun w (f : Fr (fun _ => False) W w) => rtext_any x hx.b hx.n hol w (tab_fr ht f)
  have k7 := fun w (f : Fr (fun _ => False) W w) => live_any w (tab_fr ht f)
  generalize rightS x = r at k1 k2
  generalize sizeS x.op = z at k3 k4
  generalize textS x = T at k5 k6
  obtain ⟨op, n, t, b⟩ := x
  clear hx hol ht
  have hb0 := box4 (alloc_new W (.cells #[ci op, ci n, ci t, .int .u64 b] 26 (0, 0)))
  obtain ⟨b0, b1, b2, b3⟩ := hb0
  go_enter Tryd.func3, Tryd.ntmps3
  go_upto_region 2 with fail
  obtain ⟨V, hV⟩ : ∃ V, V = (W.alloc (.cells #[ci op, ci n, ci t, .int .u64 b] 26 (0, 0))).alloc (.cells #[ci op, ci n, ci t, .int .u64 b] 27 (0, 0)) := ⟨_, rfl⟩
  have fV : Fr (fun _ => False) W V := by rw [hV]; exact (Fr.alloc _ _ _).same (Fr.alloc _ _ _)
  obtain ⟨y0, y1, y2, y3⟩ := box4 (show V.heap[W.heap.size]? = some (.cells #[ci op, ci n, ci t, .int .u64 b] 26 (0, 0)) by rw [hV]; exact heap_alloc2_old _ _ _)
  obtain ⟨x0, x1, x2, x3⟩ := box4 (show V.heap[W.heap.size + 1]? = some (.cells #[ci op, ci n, ci t, .int .u64 b] 27 (0, 0)) by rw [hV]; exact heap_alloc2_new _ _ _)
  have k5' : ∀ w, Fr (fun _ => False) V w → _ := fun w f => k5 w (fV.same f)
  have k6' : ∀ w, Fr (fun _ => False) V w → _ := fun w f => k6 w (fV.same f)
  have k7' : ∀ w, Fr (fun _ => False) V w → _ := fun w f => k7 w (fV.same f)
  rw [← hV]
  have fVH : Hidden (Fr (fun _ => False) W V) := fV
  clear hV fV b0 b1 b2 b3 k5 k6 k7
  refine wp_region_grow (by kernel_rfl) (by kernel_rfl) ?_
  (repeat (first | (refine grow_op (v := ?_) ?_ ?_ ?_; rotate_left; (focus (first | exact wanted_none rfl | (go_simp; done))); (focus (intro w' hw'; have x0 := hw'.cellN x0; have x1 := hw'.cellN x1; have x2 := hw'.cellN x2; have x3 := hw'.cellN x3; have y0 := hw'.cellN y0; have y1 := hw'.cellN y1; have y2 := hw'.cellN y2; have y3 := hw'.cellN y3; (go_simp; first | with_reducible rfl | (go_at_call 8; refine calls_grow hw' ?_; first | (have q := k1 w'; with_reducible exact q)) | (go_at_call 9; refine calls_grow hw' ?_; first | (have q := k2 w'; with_reducible exact q)) | (go_at_call 10; refine calls_grow hw' ?_; first | (have q := k3 w'; with_reducible exact q)) | (go_at_call 11; refine calls_grow hw' ?_; first | (have q := k4 w'; with_reducible exact q)) | (go_at_call 12; refine calls_grow hw' ?_; first | (have q := k5' w' hw'; with_reducible exact q)) | (go_at_call 13; refine calls_grow hw' ?_; first | (have q := k6' w' hw'; with_reducible exact q)) | (go_at_call 14; refine calls_grow hw' ?_; first | (have q := k7' w' hw'; with_reducible exact q))))); (intro a' ha; simp only [Act.put, List.setIfInBounds_toArray, List.set_cons_zero, List.set_cons_succ] at ha; subst ha)) | (refine grow_no ?_ ?_; (focus (first | (go_simp; done) | rfl)); (intro a' ha; simp only [Act.put, List.setIfInBounds_toArray, List.set_cons_zero, List.set_cons_succ] at ha; subst ha)))); refine grow_nil ?_; intro w7 q7
  go_wp2_with fail
  go_ret
  exact ⟨by first | rfl | simp, (show Fr (fun _ => False) W V from fVH).same q7⟩
end Go.Proofs.YticpiaonkgomfaaDoor.Cd
namespace Go.Proofs.YticpiaonkgomfaaDoor.codeInstructions
open Go.RowKit Ty Cd
theorem walk (v : Value) (x : In) (W : World) (hx : InA W v x) (ht : F.Tab W) : Calls Tryd.prog 3 #[v] W fun e w' => e = .returned (.bool true) ∧ Fr (fun _ => False) W w' := by
  obtain ⟨rfl, ox⟩ := hx
  exact instr_walk x ox W ht
end Go.Proofs.YticpiaonkgomfaaDoor.codeInstructions
