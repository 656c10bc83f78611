/- Texts of ours, in one. -/
import Derived.Test.YtnmcehpdiopaiaaGreatDoorCdNAll
import Derived.Test.YtnmcehpdiopaiaaGreatDoorCdU
import Derived.Test.YtnmcehpdiopaiaaGreatDoorTyAll
import Derived.Test.YtnmcehpdiopaiaaGreatDoorTrG
namespace Go.Proofs.YtnmcehpdiopaiaaGreatDoor.Cd
open Go.RowKit Ty
set_option linter.unusedSimpArgs false
set_option linter.unusedVariables false

set_option maxRecDepth 20000 in
set_option maxHeartbeats 2000000 in
theorem operand_any (i : In) (hr : rightS i = true) (hb : U64 i.b) (hN : Ty.I64 i.n) (w : World) (ht : F.Tab w) : Calls Tryz.prog 32 #[inV i] w fun e w' => e = .returned (ct (operS i)) ∧ Fr (fun _ => False) w w' := by
  have hp := right_parts hr
  obtain ⟨op, n, t, b⟩ := i
  simp only [] at hp hb hN
  obtain ⟨hk, _, hlo, hhi⟩ := hp
  obtain ⟨T, hT⟩ : ∃ T, T = operS ⟨op, n, t, b⟩ := ⟨_, rfl⟩
  rw [← hT]
  have hTH : Hidden (T = operS ⟨op, n, t, b⟩) := hT
  clear hT hr
  go_enter Tryz.func32, Tryz.ntmps32
  go_upto_region 1 with fail
  obtain ⟨W0, hW0⟩ : ∃ W, W = w.alloc (.cells #[ci op, ci n, ci t, .int .u64 b] 64 (0, 0)) := ⟨_, rfl⟩
  have f0 : Fr (fun _ => False) w W0 := by rw [hW0]; exact Fr.alloc _ _ _
  have hbx : W0.heap[w.heap.size]? = some (.cells #[ci op, ci n, ci t, .int .u64 b] 64 (0, 0)) := by rw [hW0]; exact alloc_new _ _
  rw [← hW0]
  clear hW0
  apply wp_region_lit
  refine wpl_build rfl _ _ rfl #[ct [], ct [110, 101, 103], ct [110, 111, 116], ct [105, 110, 116], ct [102, 108, 111, 97, 116]] (by kernel_rfl) ?_
  intro a' ha; simp only [Act.put, List.setIfInBounds_toArray, List.set_cons_zero, List.set_cons_succ] at ha; subst ha
  refine wpl_alloc rfl (.pointer (some ⟨W0.heap.size, 0, none⟩)) (.cells #[ct [], ct [], ct [], ct [], ct []] 117 (0, 0)) (by kernel_rfl) ?_
  intro a' ha; simp only [Act.put, List.setIfInBounds_toArray, List.set_cons_zero, List.set_cons_succ] at ha; subst ha
  refine wpl_store rfl _ _ _ rfl #[ct [], ct [110, 101, 103], ct [110, 111, 116], ct [105, 110, 116], ct [102, 108, 111, 97, 116]] #[ct [], ct [], ct [], ct [], ct []] _ rfl rfl (by kernel_rfl) rfl (by kernel_rfl) ?_
  intro a' ha; simp only [Act.put, List.setIfInBounds_toArray, List.set_cons_zero, List.set_cons_succ] at ha; subst ha
  obtain ⟨W1, hW1⟩ : ∃ W, W = W0.alloc (.cells #[ct [], ct [110, 101, 103], ct [110, 111, 116], ct [105, 110, 116], ct [102, 108, 111, 97, 116]] 117 (0, 0)) := ⟨_, rfl⟩
  have f1 : Fr (fun _ => False) W0 W1 := by rw [hW1]; exact Fr.alloc _ _ _
  have hu : W1.heap[W0.heap.size]? = some (.cells #[ct [], ct [110, 101, 103], ct [110, 111, 116], ct [105, 110, 116], ct [102, 108, 111, 97, 116]] 117 (0, 0)) := by rw [hW1]; exact alloc_new _ _
  rw [← hW1]
  clear hW1
  generalize W0.heap.size = gu at *
  go_upto_region 2 with fail
  apply wp_region_lit
  refine wpl_build rfl _ _ rfl #[ct [], ct [43], ct [45], ct [42], ct [47], ct [37], ct [61, 61], ct [33, 61], ct [60], ct [60, 61], ct [62], ct [62, 61]] (by kernel_rfl) ?_
  intro a' ha; simp only [Act.put, List.setIfInBounds_toArray, List.set_cons_zero, List.set_cons_succ] at ha; subst ha
  refine wpl_alloc rfl (.pointer (some ⟨W1.heap.size, 0, none⟩)) (.cells #[ct [], ct [], ct [], ct [], ct [], ct [], ct [], ct [], ct [], ct [], ct [], ct []] 118 (0, 0)) (by kernel_rfl) ?_
  intro a' ha; simp only [Act.put, List.setIfInBounds_toArray, List.set_cons_zero, List.set_cons_succ] at ha; subst ha
  refine wpl_store rfl _ _ _ rfl #[ct [], ct [43], ct [45], ct [42], ct [47], ct [37], ct [61, 61], ct [33, 61], ct [60], ct [60, 61], ct [62], ct [62, 61]] #[ct [], ct [], ct [], ct [], ct [], ct [], ct [], ct [], ct [], ct [], ct [], ct []] _ rfl rfl (by kernel_rfl) rfl (by kernel_rfl) ?_
  intro a' ha; simp only [Act.put, List.setIfInBounds_toArray, List.set_cons_zero, List.set_cons_succ] at ha; subst ha
  obtain ⟨W2, hW2⟩ : ∃ W, W = W1.alloc (.cells #[ct [], ct [43], ct [45], ct [42], ct [47], ct [37], ct [61, 61], ct [33, 61], ct [60], ct [60, 61], ct [62], ct [62, 61]] 118 (0, 0)) := ⟨_, rfl⟩
  have f2 : Fr (fun _ => False) W1 W2 := by rw [hW2]; exact Fr.alloc _ _ _
  have hv : W2.heap[W1.heap.size]? = some (.cells #[ct [], ct [43], ct [45], ct [42], ct [47], ct [37], ct [61, 61], ct [33, 61], ct [60], ct [60, 61], ct [62], ct [62, 61]] 118 (0, 0)) := by rw [hW2]; exact alloc_new _ _
  rw [← hW2]
  clear hW2
  generalize W1.heap.size = gv at *
  have fw : Hidden (Fr (fun _ => False) w W2) := (f0.same f1).same f2
  obtain ⟨c0, c1, c2, c3⟩ := box4 ((f1.same f2).heap hbx (fun f => f))
  have hu2 := f2.heap hu (fun f => f)
  have ht2 : Hidden (F.Tab W2) := tab_fr ht fw
  clear f0 f1 f2 hbx hu ht
  by_cases h1 : op = 1
  · subst h1
    have kw := show_any t b hb W2 ht2
    have e : T = showS t b := hTH
    rw [← e] at kw
    clear e hTH hu2 hv
    go_wp2_with (go_at_call 52; refine kw.mono ?_; rintro e w1 ⟨rfl, g1⟩)
    go_ret
    exact ⟨rfl, (show Fr (fun _ => False) w W2 from fw).same g1⟩
  have h1b : (op == 1) = false := by simp [h1]
  by_cases h6 : op = 6
  · subst h6
    have l1 : lo 6 = 1 := by decide
    have l2 : hi 6 = 4 := by decide
    rw [l1] at hlo
    rw [l2] at hhi
    have hn : n = 1 ∨ n = 2 ∨ n = 3 ∨ n = 4 := by omega
    rcases hn with rfl | rfl | rfl | rfl
    · have u1 : W2.cell? ⟨gu, 1, none⟩ = some (ct [110, 101, 103]) := cell_of_row _ _ 1 _ _ _ hu2
      have e : T = _ := hTH
      have eH : Hidden (T = [110, 101, 103]) := e
      clear e hTH hu2 hv
      go_wp2_with fail
      go_ret
      exact ⟨by rw [show T = _ from eH]; rfl, fw⟩
    · have u2 : W2.cell? ⟨gu, 2, none⟩ = some (ct [110, 111, 116]) := cell_of_row _ _ 2 _ _ _ hu2
      have e : T = _ := hTH
      have eH : Hidden (T = [110, 111, 116]) := e
      clear e hTH hu2 hv
      go_wp2_with fail
      go_ret
      exact ⟨by rw [show T = _ from eH]; rfl, fw⟩
    · have u3 : W2.cell? ⟨gu, 3, none⟩ = some (ct [105, 110, 116]) := cell_of_row _ _ 3 _ _ _ hu2
      have e : T = _ := hTH
      have eH : Hidden (T = [105, 110, 116]) := e
      clear e hTH hu2 hv
      go_wp2_with fail
      go_ret
      exact ⟨by rw [show T = _ from eH]; rfl, fw⟩
    · have u4 : W2.cell? ⟨gu, 4, none⟩ = some (ct [102, 108, 111, 97, 116]) := cell_of_row _ _ 4 _ _ _ hu2
      have e : T = _ := hTH
      have eH : Hidden (T = [102, 108, 111, 97, 116]) := e
      clear e hTH hu2 hv
      go_wp2_with fail
      go_ret
      exact ⟨by rw [show T = _ from eH]; rfl, fw⟩
  have h6b : (op == 6) = false := by simp [h6]
  by_cases h7 : op = 7
  · subst h7
    have l1 : lo 7 = 1 := by decide
    have l2 : hi 7 = 11 := by decide
    rw [l1] at hlo
    rw [l2] at hhi
    have hn : n = 1 ∨ n = 2 ∨ n = 3 ∨ n = 4 ∨ n = 5 ∨ n = 6 ∨ n = 7 ∨ n = 8 ∨ n = 9 ∨ n = 10 ∨ n = 11 := by omega
    rcases hn with rfl | rfl | rfl | rfl | rfl | rfl | rfl | rfl | rfl | rfl | rfl
    · have u1 : W2.cell? ⟨gv, 1, none⟩ = some (ct [43]) := cell_of_row _ _ 1 _ _ _ hv
      have e : T = _ := hTH
      have eH : Hidden (T = [43]) := e
      clear e hTH hu2 hv
      go_wp2_with fail
      go_ret
      exact ⟨by rw [show T = _ from eH]; rfl, fw⟩
    · have u2 : W2.cell? ⟨gv, 2, none⟩ = some (ct [45]) := cell_of_row _ _ 2 _ _ _ hv
      have e : T = _ := hTH
      have eH : Hidden (T = [45]) := e
      clear e hTH hu2 hv
      go_wp2_with fail
      go_ret
      exact ⟨by rw [show T = _ from eH]; rfl, fw⟩
    · have u3 : W2.cell? ⟨gv, 3, none⟩ = some (ct [42]) := cell_of_row _ _ 3 _ _ _ hv
      have e : T = _ := hTH
      have eH : Hidden (T = [42]) := e
      clear e hTH hu2 hv
      go_wp2_with fail
      go_ret
      exact ⟨by rw [show T = _ from eH]; rfl, fw⟩
    · have u4 : W2.cell? ⟨gv, 4, none⟩ = some (ct [47]) := cell_of_row _ _ 4 _ _ _ hv
      have e : T = _ := hTH
      have eH : Hidden (T = [47]) := e
      clear e hTH hu2 hv
      go_wp2_with fail
      go_ret
      exact ⟨by rw [show T = _ from eH]; rfl, fw⟩
    · have u5 : W2.cell? ⟨gv, 5, none⟩ = some (ct [37]) := cell_of_row _ _ 5 _ _ _ hv
      have e : T = _ := hTH
      have eH : Hidden (T = [37]) := e
      clear e hTH hu2 hv
      go_wp2_with fail
      go_ret
      exact ⟨by rw [show T = _ from eH]; rfl, fw⟩
    · have u6 : W2.cell? ⟨gv, 6, none⟩ = some (ct [61, 61]) := cell_of_row _ _ 6 _ _ _ hv
      have e : T = _ := hTH
      have eH : Hidden (T = [61, 61]) := e
      clear e hTH hu2 hv
      go_wp2_with fail
      go_ret
      exact ⟨by rw [show T = _ from eH]; rfl, fw⟩
    · have u7 : W2.cell? ⟨gv, 7, none⟩ = some (ct [33, 61]) := cell_of_row _ _ 7 _ _ _ hv
      have e : T = _ := hTH
      have eH : Hidden (T = [33, 61]) := e
      clear e hTH hu2 hv
      go_wp2_with fail
      go_ret
      exact ⟨by rw [show T = _ from eH]; rfl, fw⟩
    · have u8 : W2.cell? ⟨gv, 8, none⟩ = some (ct [60]) := cell_of_row _ _ 8 _ _ _ hv
      have e : T = _ := hTH
      have eH : Hidden (T = [60]) := e
      clear e hTH hu2 hv
      go_wp2_with fail
      go_ret
      exact ⟨by rw [show T = _ from eH]; rfl, fw⟩
    · have u9 : W2.cell? ⟨gv, 9, none⟩ = some (ct [60, 61]) := cell_of_row _ _ 9 _ _ _ hv
      have e : T = _ := hTH
      have eH : Hidden (T = [60, 61]) := e
      clear e hTH hu2 hv
      go_wp2_with fail
      go_ret
      exact ⟨by rw [show T = _ from eH]; rfl, fw⟩
    · have u10 : W2.cell? ⟨gv, 10, none⟩ = some (ct [62]) := cell_of_row _ _ 10 _ _ _ hv
      have e : T = _ := hTH
      have eH : Hidden (T = [62]) := e
      clear e hTH hu2 hv
      go_wp2_with fail
      go_ret
      exact ⟨by rw [show T = _ from eH]; rfl, fw⟩
    · have u11 : W2.cell? ⟨gv, 11, none⟩ = some (ct [62, 61]) := cell_of_row _ _ 11 _ _ _ hv
      have e : T = _ := hTH
      have eH : Hidden (T = [62, 61]) := e
      clear e hTH hu2 hv
      go_wp2_with fail
      go_ret
      exact ⟨by rw [show T = _ from eH]; rfl, fw⟩
  · have h7b : (op == 7) = false := by simp [h7]
    have kd := D.dec_any n hN W2 ht2
    have e : T = Lib.itoa n := by rw [show T = _ from hTH]; unfold operS; simp only; rw [if_neg h1, if_neg h6, if_neg h7]
    rw [← e] at kd
    clear e hTH hu2 hv h1 h6 h7
    go_wp2_with (go_at_call 53; refine kd.mono ?_; rintro e w1 ⟨rfl, g1⟩)
    go_ret
    exact ⟨rfl, (show Fr (fun _ => False) w W2 from fw).same (kb_frD g1)⟩
end Go.Proofs.YtnmcehpdiopaiaaGreatDoor.Cd

namespace Go.Proofs.YtnmcehpdiopaiaaGreatDoor.Cd
open Go.RowKit Ty
set_option linter.unusedSimpArgs false
set_option linter.unusedVariables false

theorem nmS_len (op : Int) : (nmS op).length ≤ 6 := by
  unfold nmS
  by_cases c1 : op = 1
  · rw [if_pos c1]; decide
  rw [if_neg c1]
  by_cases c2 : op = 2
  · rw [if_pos c2]; decide
  rw [if_neg c2]
  by_cases c3 : op = 3
  · rw [if_pos c3]; decide
  rw [if_neg c3]
  by_cases c4 : op = 4
  · rw [if_pos c4]; decide
  rw [if_neg c4]
  by_cases c5 : op = 5
  · rw [if_pos c5]; decide
  rw [if_neg c5]
  by_cases c6 : op = 6
  · rw [if_pos c6]; decide
  rw [if_neg c6]
  by_cases c7 : op = 7
  · rw [if_pos c7]; decide
  rw [if_neg c7]
  by_cases c8 : op = 8
  · rw [if_pos c8]; decide
  rw [if_neg c8]
  by_cases c9 : op = 9
  · rw [if_pos c9]; decide
  rw [if_neg c9]
  by_cases c10 : op = 10
  · rw [if_pos c10]; decide
  rw [if_neg c10]
  by_cases c11 : op = 11
  · rw [if_pos c11]; decide
  rw [if_neg c11]
  by_cases c12 : op = 12
  · rw [if_pos c12]; decide
  rw [if_neg c12]
  by_cases c13 : op = 13
  · rw [if_pos c13]; decide
  rw [if_neg c13]
  by_cases c14 : op = 14
  · rw [if_pos c14]; decide
  rw [if_neg c14]
  by_cases c15 : op = 15
  · rw [if_pos c15]; decide
  rw [if_neg c15]
  by_cases c16 : op = 16
  · rw [if_pos c16]; decide
  rw [if_neg c16]; decide
set_option maxRecDepth 20000 in
set_option maxHeartbeats 2000000 in
theorem text_any (i : In) (hb : U64 i.b) (hN : Ty.I64 i.n) (hol : (operS i).length ≤ 8000000) (w : World) (ht : F.Tab w) : Calls Tryz.prog 19 #[inV i] w fun e w' => e = .returned (ct (textS i)) ∧ Fr (fun _ => False) w w' := by
  have kr := fun W => right_any i hb W
  by_cases hr : rightS i = true
  · rw [hr] at kr
    have ko := fun W hW => operand_any i hr hb hN W hW
    have kro := fun W => row_is i.op W
    have hk := (right_parts hr).1
    have hnm : nmR i.op = nmS i.op := by unfold nmR; rw [if_pos hk]
    have hnl := nmS_len i.op
    have hby : (byR i.op = 0 ↔ (i.op ≠ 1 ∧ wd i.op = 0)) := by
      unfold byR
      by_cases e : i.op = 1
      · simp [e]
      · rw [if_neg e]; simp [e]
    rw [hnm, hk] at kro
    obtain ⟨R, hR⟩ : ∃ R, R = textS i := ⟨_, rfl⟩
    have hR2 : R = if i.op ≠ 1 ∧ wd i.op = 0 then nmS i.op else nmS i.op ++ [32] ++ operS i := by rw [hR]; unfold textS; rw [if_pos hr]
    rw [← hR]
    clear hR
    obtain ⟨op, n, t, b⟩ := i
    simp only [] at kro hby hR2 hnl
    generalize operS ⟨op, n, t, b⟩ = O at ko hR2 hol
    generalize nmS op = nm at kro hR2 hnl
    generalize lo op = l at kro
    generalize hi op = h at kro
    generalize nuR op = nu at kro
    generalize taR op = ta at kro
    generalize puR op = pu at kro
    generalize trR op = tr at kro
    generalize enR op = en at kro
    generalize byR op = by' at kro hby
    have hc1 := fun W : World => run_string_add_lists (P := Tryz.prog) W nm [32] (by omega) (by simp)
    have hc2 := fun W : World => run_string_add_lists (P := Tryz.prog) W (nm ++ [32]) O (by simp; omega) (by omega)
    by_cases h0 : by' = 0
    · rw [if_pos (hby.1 h0)] at hR2
      subst h0
      subst hR2
      clear hby ko hc1 hc2
      go_enter Tryz.func19, Tryz.ntmps19
      go_wp2_with (first
        | (go_at_call 23; refine (kr _).mono ?_; rintro e w1 ⟨rfl, f1⟩; obtain ⟨d0, d1, d2, d3⟩ := box4_fr f1)
        | (go_at_call 31; refine (kro _).mono ?_; rintro e w2 ⟨rfl, f2⟩))
      go_ret
      exact ⟨rfl, (((Fr.alloc _ _ _).same f1).same f2).same (Fr.alloc _ _ _)⟩
    · rw [if_neg (fun e => h0 (hby.2 e))] at hR2
      have h0b : (by' == 0) = false := by simp [h0]
      have hRH : Hidden (R = nm ++ [32] ++ O) := hR2
      obtain ⟨N1, hN1⟩ : ∃ x, x = nm ++ [32] := ⟨_, rfl⟩
      rw [← hN1] at hc1 hc2
      obtain ⟨R1, hR1⟩ : ∃ x, x = N1 ++ O := ⟨_, rfl⟩
      rw [← hR1] at hc2
      have hN1H : Hidden (N1 = nm ++ [32]) := hN1
      have hR1H : Hidden (R1 = N1 ++ O) := hR1
      clear hby hR2 h0 hN1 hR1
      go_enter Tryz.func19, Tryz.ntmps19
      go_upto_region 6 with (first
        | (go_at_call 23; refine (kr _).mono ?_; rintro e w1 ⟨rfl, f1⟩; obtain ⟨d0, d1, d2, d3⟩ := box4_fr f1)
        | (go_at_call 31; refine (kro _).mono ?_; rintro e w2 ⟨rfl, f2⟩))
      obtain ⟨V, hV⟩ : ∃ V, V = w2.alloc (.cells #[ct nm, ci by', ci l, ci h, ci nu, ci ta, ci pu, ci tr, .bool en] 92 (0, 0)) := ⟨_, rfl⟩
      have fV : Fr (fun _ => False) w1 V := by rw [hV]; exact f2.same (Fr.alloc _ _ _)
      have s0 : V.cell? ⟨w2.heap.size, 0, none⟩ = some (ct nm) := cell_of_row _ _ 0 _ _ _ (show V.heap[w2.heap.size]? = some (.cells #[ct nm, ci by', ci l, ci h, ci nu, ci ta, ci pu, ci tr, .bool en] 92 (0, 0)) by rw [hV]; exact alloc_new _ _)
      replace d0 := fV.cellN d0
      replace d1 := fV.cellN d1
      replace d2 := fV.cellN d2
      replace d3 := fV.cellN d3
      have fwV : Fr (fun _ => False) w V := ((Fr.alloc _ _ _).same f1).same fV
      have fwVH : Hidden (Fr (fun _ => False) w V) := fwV
      have koV : ∀ W, Fr (fun _ => False) V W → Calls Tryz.prog 32 #[.agg #[ci op, ci n, ci t, .int .u64 b]] W fun e w' => e = .returned (ct O) ∧ Fr (fun _ => False) W w' := fun W hW => ko W (tab_fr ht (fwV.same hW))
      generalize w2.heap.size = g3 at *
      rw [← hV]
      clear hV fV fwV ko kr kro f1 f2 ht
      refine wp_region_grow (by kernel_rfl) (by kernel_rfl) ?_
      (repeat (first | (refine grow_op (v := ?_) ?_ ?_ ?_; rotate_left; (focus (first | exact wanted_none rfl | (go_simp; done))); (focus (intro w' hw'; have s0 := hw'.cellN s0; have d0 := hw'.cellN d0; have d1 := hw'.cellN d1; have d2 := hw'.cellN d2; have d3 := hw'.cellN d3; (go_simp; first | with_reducible rfl | (go_at_call 32; refine calls_grow hw' ?_; first | (have q := koV w' hw'; with_reducible exact q))))); (intro a' ha; simp only [Act.put, List.setIfInBounds_toArray, List.set_cons_zero, List.set_cons_succ] at ha; subst ha)) | (refine grow_no ?_ ?_; (focus (first | (go_simp; done) | rfl)); (intro a' ha; simp only [Act.put, List.setIfInBounds_toArray, List.set_cons_zero, List.set_cons_succ] at ha; subst ha)))); refine grow_nil ?_; intro w3 q2
      go_wp2_with fail
      go_ret
      refine ⟨?_, (show Fr (fun _ => False) w V from fwVH).same q2⟩
      rw [show R = _ from hRH, ← (show N1 = _ from hN1H), ← (show R1 = _ from hR1H)]
      rfl
  · have hr' : rightS i = false := by simpa using hr
    rw [hr'] at kr
    have e : textS i = [] := by unfold textS; rw [if_neg hr]
    rw [e]
    clear e hr hr' ht hol
    obtain ⟨op, n, t, b⟩ := i
    go_enter Tryz.func19, Tryz.ntmps19
    go_wp2_with (first
      | (go_at_call 23; refine (kr _).mono ?_; rintro e w1 ⟨rfl, f1⟩))
    go_ret
    exact ⟨rfl, (Fr.alloc _ _ _).same f1⟩
end Go.Proofs.YtnmcehpdiopaiaaGreatDoor.Cd
