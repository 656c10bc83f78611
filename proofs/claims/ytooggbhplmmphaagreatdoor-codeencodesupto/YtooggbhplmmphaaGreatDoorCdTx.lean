/- Instructions as texts: the program's. -/
import Derived.Test.YtooggbhplmmphaaGreatDoorCdB
import Derived.Test.YtooggbhplmmphaaGreatDoorCdU
import Derived.Test.YtooggbhplmmphaaGreatDoorTyAll
namespace Go.Proofs.YtooggbhplmmphaaGreatDoor.Cd
open Go.RowKit Ty
set_option linter.unusedSimpArgs false
set_option linter.unusedVariables false

set_option maxRecDepth 20000 in
set_option maxHeartbeats 2000000 in
theorem operand_any (i : In) (hr : rightS i = true) (hb : U64 i.b) (hN : Ty.I64 i.n) (w : World) (ht : F.Tab w) : Calls Tryz.prog 32 #[inV i] w fun e w' => e = .returned (ct (operS i)) ∧ Fr (fun _ => False) w w' := by
  have hp := right_parts hr
  obtain ⟨op, n, t, b⟩ := i
  simp only [] at hp hb hN
  obtain ⟨hk, _, hlo, hhi⟩ := hp
  obtain ⟨T, hT⟩ : ∃ T, T = operS ⟨op, n, t, b⟩ := ⟨_, rfl⟩
  rw [← hT]
  have hTH : Hidden (T = operS ⟨op, n, t, b⟩) := hT
  clear hT hr
  go_enter Tryz.func32, Tryz.ntmps32
  go_upto_region 1 with fail
  obtain ⟨W0, hW0⟩ : ∃ W, W = w.alloc (.cells #[ci op, ci n, ci t, .int .u64 b] 41 (0, 0)) := ⟨_, rfl⟩
  have f0 : Fr (fun _ => False) w W0 := by rw [hW0]; exact Fr.alloc _ _ _
  have hbx : W0.heap[w.heap.size]? = some (.cells #[ci op, ci n, ci t, .int .u64 b] 41 (0, 0)) := by rw [hW0]; exact alloc_new _ _
  rw [← hW0]
  clear hW0
  apply wp_region_lit
  refine wpl_build rfl _ _ rfl #[ct [], ct [110, 101, 103], ct [110, 111, 116], ct [105, 110, 116], ct [102, 108, 111, 97, 116]] (by kernel_rfl) ?_
  intro a' ha; simp only [Act.put, List.setIfInBounds_toArray, List.set_cons_zero, List.set_cons_succ] at ha; subst ha
  refine wpl_alloc rfl (.pointer (some ⟨W0.heap.size, 0, none⟩)) (.cells #[ct [], ct [], ct [], ct [], ct []] 81 (0, 0)) (by kernel_rfl) ?_
  intro a' ha; simp only [Act.put, List.setIfInBounds_toArray, List.set_cons_zero, List.set_cons_succ] at ha; subst ha
  refine wpl_store rfl _ _ _ rfl #[ct [], ct [110, 101, 103], ct [110, 111, 116], ct [105, 110, 116], ct [102, 108, 111, 97, 116]] #[ct [], ct [], ct [], ct [], ct []] _ rfl rfl (by kernel_rfl) rfl (by kernel_rfl) ?_
  intro a' ha; simp only [Act.put, List.setIfInBounds_toArray, List.set_cons_zero, List.set_cons_succ] at ha; subst ha
  obtain ⟨W1, hW1⟩ : ∃ W, W = W0.alloc (.cells #[ct [], ct [110, 101, 103], ct [110, 111, 116], ct [105, 110, 116], ct [102, 108, 111, 97, 116]] 81 (0, 0)) := ⟨_, rfl⟩
  have f1 : Fr (fun _ => False) W0 W1 := by rw [hW1]; exact Fr.alloc _ _ _
  have hu : W1.heap[W0.heap.size]? = some (.cells #[ct [], ct [110, 101, 103], ct [110, 111, 116], ct [105, 110, 116], ct [102, 108, 111, 97, 116]] 81 (0, 0)) := by rw [hW1]; exact alloc_new _ _
  rw [← hW1]
  clear hW1
  generalize W0.heap.size = gu at *
  go_upto_region 2 with fail
  apply wp_region_lit
  refine wpl_build rfl _ _ rfl #[ct [], ct [43], ct [45], ct [42], ct [47], ct [37], ct [61, 61], ct [33, 61], ct [60], ct [60, 61], ct [62], ct [62, 61]] (by kernel_rfl) ?_
  intro a' ha; simp only [Act.put, List.setIfInBounds_toArray, List.set_cons_zero, List.set_cons_succ] at ha; subst ha
  refine wpl_alloc rfl (.pointer (some ⟨W1.heap.size, 0, none⟩)) (.cells #[ct [], ct [], ct [], ct [], ct [], ct [], ct [], ct [], ct [], ct [], ct [], ct []] 82 (0, 0)) (by kernel_rfl) ?_
  intro a' ha; simp only [Act.put, List.setIfInBounds_toArray, List.set_cons_zero, List.set_cons_succ] at ha; subst ha
  refine wpl_store rfl _ _ _ rfl #[ct [], ct [43], ct [45], ct [42], ct [47], ct [37], ct [61, 61], ct [33, 61], ct [60], ct [60, 61], ct [62], ct [62, 61]] #[ct [], ct [], ct [], ct [], ct [], ct [], ct [], ct [], ct [], ct [], ct [], ct []] _ rfl rfl (by kernel_rfl) rfl (by kernel_rfl) ?_
  intro a' ha; simp only [Act.put, List.setIfInBounds_toArray, List.set_cons_zero, List.set_cons_succ] at ha; subst ha
  obtain ⟨W2, hW2⟩ : ∃ W, W = W1.alloc (.cells #[ct [], ct [43], ct [45], ct [42], ct [47], ct [37], ct [61, 61], ct [33, 61], ct [60], ct [60, 61], ct [62], ct [62, 61]] 82 (0, 0)) := ⟨_, rfl⟩
  have f2 : Fr (fun _ => False) W1 W2 := by rw [hW2]; exact Fr.alloc _ _ _
  have hv : W2.heap[W1.heap.size]? = some (.cells #[ct [], ct [43], ct [45], ct [42], ct [47], ct [37], ct [61, 61], ct [33, 61], ct [60], ct [60, 61], ct [62], ct [62, 61]] 82 (0, 0)) := by rw [hW2]; exact alloc_new _ _
  rw [← hW2]
  clear hW2
  generalize W1.heap.size = gv at *
  have fw : Hidden (Fr (fun _ => False) w W2) := (f0.same f1).same f2
  obtain ⟨c0, c1, c2, c3⟩ := box4 ((f1.same f2).heap hbx (fun f => f))
  have hu2 := f2.heap hu (fun f => f)
  have ht2 : Hidden (F.Tab W2) := tab_fr ht fw
  clear f0 f1 f2 hbx hu ht
  by_cases h1 : op = 1
  · subst h1
    have kw := show_any t b hb W2 ht2
    have e : T = showS t b := hTH
    rw [← e] at kw
    clear e hTH hu2 hv
    go_wp2_with (go_at_call 39; refine kw.mono ?_; rintro e w1 ⟨rfl, g1⟩)
    go_ret
    exact ⟨rfl, (show Fr (fun _ => False) w W2 from fw).same g1⟩
  have h1b : (op == 1) = false := by simp [h1]
  by_cases h6 : op = 6
  · subst h6
    have l1 : lo 6 = 1 := by decide
    have l2 : hi 6 = 4 := by decide
    rw [l1] at hlo
    rw [l2] at hhi
    have hn : n = 1 ∨ n = 2 ∨ n = 3 ∨ n = 4 := by omega
    rcases hn with rfl | rfl | rfl | rfl
    · have u1 : W2.cell? ⟨gu, 1, none⟩ = some (ct [110, 101, 103]) := cell_of_row _ _ 1 _ _ _ hu2
      have e : T = _ := hTH
      have eH : Hidden (T = [110, 101, 103]) := e
      clear e hTH hu2 hv
      go_wp2_with fail
      go_ret
      exact ⟨by rw [show T = _ from eH]; rfl, fw⟩
    · have u2 : W2.cell? ⟨gu, 2, none⟩ = some (ct [110, 111, 116]) := cell_of_row _ _ 2 _ _ _ hu2
      have e : T = _ := hTH
      have eH : Hidden (T = [110, 111, 116]) := e
      clear e hTH hu2 hv
      go_wp2_with fail
      go_ret
      exact ⟨by rw [show T = _ from eH]; rfl, fw⟩
    · have u3 : W2.cell? ⟨gu, 3, none⟩ = some (ct [105, 110, 116]) := cell_of_row _ _ 3 _ _ _ hu2
      have e : T = _ := hTH
      have eH : Hidden (T = [105, 110, 116]) := e
      clear e hTH hu2 hv
      go_wp2_with fail
      go_ret
      exact ⟨by rw [show T = _ from eH]; rfl, fw⟩
    · have u4 : W2.cell? ⟨gu, 4, none⟩ = some (ct [102, 108, 111, 97, 116]) := cell_of_row _ _ 4 _ _ _ hu2
      have e : T = _ := hTH
      have eH : Hidden (T = [102, 108, 111, 97, 116]) := e
      clear e hTH hu2 hv
      go_wp2_with fail
      go_ret
      exact ⟨by rw [show T = _ from eH]; rfl, fw⟩
  have h6b : (op == 6) = false := by simp [h6]
  by_cases h7 : op = 7
  · subst h7
    have l1 : lo 7 = 1 := by decide
    have l2 : hi 7 = 11 := by decide
    rw [l1] at hlo
    rw [l2] at hhi
    have hn : n = 1 ∨ n = 2 ∨ n = 3 ∨ n = 4 ∨ n = 5 ∨ n = 6 ∨ n = 7 ∨ n = 8 ∨ n = 9 ∨ n = 10 ∨ n = 11 := by omega
    rcases hn with rfl | rfl | rfl | rfl | rfl | rfl | rfl | rfl | rfl | rfl | rfl
    · have u1 : W2.cell? ⟨gv, 1, none⟩ = some (ct [43]) := cell_of_row _ _ 1 _ _ _ hv
      have e : T = _ := hTH
      have eH : Hidden (T = [43]) := e
      clear e hTH hu2 hv
      go_wp2_with fail
      go_ret
      exact ⟨by rw [show T = _ from eH]; rfl, fw⟩
    · have u2 : W2.cell? ⟨gv, 2, none⟩ = some (ct [45]) := cell_of_row _ _ 2 _ _ _ hv
      have e : T = _ := hTH
      have eH : Hidden (T = [45]) := e
      clear e hTH hu2 hv
      go_wp2_with fail
      go_ret
      exact ⟨by rw [show T = _ from eH]; rfl, fw⟩
    · have u3 : W2.cell? ⟨gv, 3, none⟩ = some (ct [42]) := cell_of_row _ _ 3 _ _ _ hv
      have e : T = _ := hTH
      have eH : Hidden (T = [42]) := e
      clear e hTH hu2 hv
      go_wp2_with fail
      go_ret
      exact ⟨by rw [show T = _ from eH]; rfl, fw⟩
    · have u4 : W2.cell? ⟨gv, 4, none⟩ = some (ct [47]) := cell_of_row _ _ 4 _ _ _ hv
      have e : T = _ := hTH
      have eH : Hidden (T = [47]) := e
      clear e hTH hu2 hv
      go_wp2_with fail
      go_ret
      exact ⟨by rw [show T = _ from eH]; rfl, fw⟩
    · have u5 : W2.cell? ⟨gv, 5, none⟩ = some (ct [37]) := cell_of_row _ _ 5 _ _ _ hv
      have e : T = _ := hTH
      have eH : Hidden (T = [37]) := e
      clear e hTH hu2 hv
      go_wp2_with fail
      go_ret
      exact ⟨by rw [show T = _ from eH]; rfl, fw⟩
    · have u6 : W2.cell? ⟨gv, 6, none⟩ = some (ct [61, 61]) := cell_of_row _ _ 6 _ _ _ hv
      have e : T = _ := hTH
      have eH : Hidden (T = [61, 61]) := e
      clear e hTH hu2 hv
      go_wp2_with fail
      go_ret
      exact ⟨by rw [show T = _ from eH]; rfl, fw⟩
    · have u7 : W2.cell? ⟨gv, 7, none⟩ = some (ct [33, 61]) := cell_of_row _ _ 7 _ _ _ hv
      have e : T = _ := hTH
      have eH : Hidden (T = [33, 61]) := e
      clear e hTH hu2 hv
      go_wp2_with fail
      go_ret
      exact ⟨by rw [show T = _ from eH]; rfl, fw⟩
    · have u8 : W2.cell? ⟨gv, 8, none⟩ = some (ct [60]) := cell_of_row _ _ 8 _ _ _ hv
      have e : T = _ := hTH
      have eH : Hidden (T = [60]) := e
      clear e hTH hu2 hv
      go_wp2_with fail
      go_ret
      exact ⟨by rw [show T = _ from eH]; rfl, fw⟩
    · have u9 : W2.cell? ⟨gv, 9, none⟩ = some (ct [60, 61]) := cell_of_row _ _ 9 _ _ _ hv
      have e : T = _ := hTH
      have eH : Hidden (T = [60, 61]) := e
      clear e hTH hu2 hv
      go_wp2_with fail
      go_ret
      exact ⟨by rw [show T = _ from eH]; rfl, fw⟩
    · have u10 : W2.cell? ⟨gv, 10, none⟩ = some (ct [62]) := cell_of_row _ _ 10 _ _ _ hv
      have e : T = _ := hTH
      have eH : Hidden (T = [62]) := e
      clear e hTH hu2 hv
      go_wp2_with fail
      go_ret
      exact ⟨by rw [show T = _ from eH]; rfl, fw⟩
    · have u11 : W2.cell? ⟨gv, 11, none⟩ = some (ct [62, 61]) := cell_of_row _ _ 11 _ _ _ hv
      have e : T = _ := hTH
      have eH : Hidden (T = [62, 61]) := e
      clear e hTH hu2 hv
      go_wp2_with fail
      go_ret
      exact ⟨by rw [show T = _ from eH]; rfl, fw⟩
  · have h7b : (op == 7) = false := by simp [h7]
    have kd := D.dec_any n hN W2 ht2
    have e : T = Lib.itoa n := by rw [show T = _ from hTH]; unfold operS; simp only; rw [if_neg h1, if_neg h6, if_neg h7]
    rw [← e] at kd
    clear e hTH hu2 hv h1 h6 h7
    go_wp2_with (go_at_call 17; refine kd.mono ?_; rintro e w1 ⟨rfl, g1⟩)
    go_ret
    exact ⟨rfl, (show Fr (fun _ => False) w W2 from fw).same (kb_frD g1)⟩
end Go.Proofs.YtooggbhplmmphaaGreatDoor.Cd
