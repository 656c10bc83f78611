/- Instructions as texts: the document's; CodeInstructions. -/
import Derived.Test.YtmkacbpeaggcpaaGreatDoorCdRr
import Derived.Test.YtmkacbpeaggcpaaGreatDoorCdTxAll
import Derived.Test.YtmkacbpeaggcpaaGreatDoorCdUn
namespace Go.Proofs.YtmkacbpeaggcpaaGreatDoor.Cd
open Go.RowKit Ty
set_option linter.unusedSimpArgs false
set_option linter.unusedVariables false

theorem nm_at (k : Nat) (h1 : 1 ≤ k) (h2 : k ≤ 17) : (#[ct [], ct [112, 117, 115, 104], ct [103, 101, 116], ct [112, 117, 116], ct [108, 111, 97, 100], ct [115, 116, 111, 114, 101], ct [117, 110], ct [98, 105, 110], ct [106, 117, 109, 112], ct [117, 110, 108, 101, 115, 115], ct [99, 97, 108, 108], ct [114, 101, 116, 117, 114, 110], ct [115, 104, 111, 119], ct [102, 97, 105, 108], ct [105, 110, 112, 117, 116], ct [116, 114, 121], ct [117, 110, 116, 114, 121], ct [100, 114, 111, 112]] : Array Value)[k]? = some (ct (nmS (k : Int))) := by
  rcases (show k = 1 ∨ k = 2 ∨ k = 3 ∨ k = 4 ∨ k = 5 ∨ k = 6 ∨ k = 7 ∨ k = 8 ∨ k = 9 ∨ k = 10 ∨ k = 11 ∨ k = 12 ∨ k = 13 ∨ k = 14 ∨ k = 15 ∨ k = 16 ∨ k = 17 by omega) with rfl | rfl | rfl | rfl | rfl | rfl | rfl | rfl | rfl | rfl | rfl | rfl | rfl | rfl | rfl | rfl | rfl <;> rfl
theorem un_at (k : Nat) (h1 : 1 ≤ k) (h2 : k ≤ 4) : (#[ct [], ct [110, 101, 103], ct [110, 111, 116], ct [105, 110, 116], ct [102, 108, 111, 97, 116]] : Array Value)[k]? = some (ct (unW (k : Int))) := by
  rcases (show k = 1 ∨ k = 2 ∨ k = 3 ∨ k = 4 by omega) with rfl | rfl | rfl | rfl <;> rfl
theorem bi_at (k : Nat) (h1 : 1 ≤ k) (h2 : k ≤ 11) : (#[ct [], ct [43], ct [45], ct [42], ct [47], ct [37], ct [61, 61], ct [33, 61], ct [60], ct [60, 61], ct [62], ct [62, 61]] : Array Value)[k]? = some (ct (binW (k : Int))) := by
  rcases (show k = 1 ∨ k = 2 ∨ k = 3 ∨ k = 4 ∨ k = 5 ∨ k = 6 ∨ k = 7 ∨ k = 8 ∨ k = 9 ∨ k = 10 ∨ k = 11 by omega) with rfl | rfl | rfl | rfl | rfl | rfl | rfl | rfl | rfl | rfl | rfl <;> rfl
set_option maxRecDepth 20000 in
set_option maxHeartbeats 4000000 in
theorem rtext_any (i : In) (hb : U64 i.b) (hN : Ty.I64 i.n) (hol : (operS i).length ≤ 8000000) (w : World) (ht : F.Tab w) : Calls Tryz.prog 30 #[inV i] w fun e w' => e = .returned (ct (textS i)) ∧ Fr (fun _ => False) w w' := by
  have kr := fun W => rright_any i hb W
  by_cases hr : rightS i = true
  · rw [hr] at kr
    have hp := right_parts hr
    obtain ⟨R, hR⟩ : ∃ R, R = textS i := ⟨_, rfl⟩
    have hR2 : R = if i.op ≠ 1 ∧ wd i.op = 0 then nmS i.op else nmS i.op ++ [32] ++ operS i := by rw [hR]; unfold textS; rw [if_pos hr]
    rw [← hR]
    have hnl := nmS_len i.op
    clear hR hr
    obtain ⟨op, n, t, b⟩ := i
    simp only [] at hp hR2 hb hN hnl
    obtain ⟨hk, _, hlo, hhi⟩ := hp
    obtain ⟨k, rfl⟩ : ∃ k : Nat, op = (k : Int) := ⟨op.toNat, by simp only [known, decide_eq_true_eq] at hk; omega⟩
    have hk1 : 1 ≤ k ∧ k ≤ 17 := by simp only [known, decide_eq_true_eq] at hk; omega
    obtain ⟨k1, k17⟩ := hk1
    have hat := nm_at k k1 k17
    have hRH : Hidden (R = if (k : Int) ≠ 1 ∧ wd (k : Int) = 0 then nmS (k : Int) else nmS (k : Int) ++ [32] ++ operS ⟨(k : Int), n, t, b⟩) := hR2
    have htH : Hidden (F.Tab w) := ht
    have ki : (k : Int) < 18 := by omega
    have ki2 : k < 18 := by omega
    clear hk hR2 ht
    go_enter Tryz.func30, Tryz.ntmps30
    go_upto_region 3 with (first
      | (go_at_call 23; refine (kr _).mono ?_; rintro e w2 ⟨rfl, f2⟩))
    have hbx := f2.heap (alloc_new w (.cells #[ci (k : Int), ci n, ci t, .int .u64 b] 65 (0, 0))) (fun f => f)
    have fw2 : Fr (fun _ => False) w w2 := (Fr.alloc _ _ _).same f2
    generalize w.heap.size = G at hbx ⊢
    clear f2 kr
    apply wp_region_lit
    refine wpl_build rfl _ _ rfl #[ct [], ct [112, 117, 115, 104], ct [103, 101, 116], ct [112, 117, 116], ct [108, 111, 97, 100], ct [115, 116, 111, 114, 101], ct [117, 110], ct [98, 105, 110], ct [106, 117, 109, 112], ct [117, 110, 108, 101, 115, 115], ct [99, 97, 108, 108], ct [114, 101, 116, 117, 114, 110], ct [115, 104, 111, 119], ct [102, 97, 105, 108], ct [105, 110, 112, 117, 116], ct [116, 114, 121], ct [117, 110, 116, 114, 121], ct [100, 114, 111, 112]] (by kernel_rfl) ?_
    intro a' ha; simp only [Act.put, List.setIfInBounds_toArray, List.set_cons_zero, List.set_cons_succ] at ha; subst ha
    refine wpl_alloc rfl (.pointer (some ⟨w2.heap.size, 0, none⟩)) (.cells #[ct [], ct [], ct [], ct [], ct [], ct [], ct [], ct [], ct [], ct [], ct [], ct [], ct [], ct [], ct [], ct [], ct [], ct []] 113 (0, 0)) (by kernel_rfl) ?_
    intro a' ha; simp only [Act.put, List.setIfInBounds_toArray, List.set_cons_zero, List.set_cons_succ] at ha; subst ha
    refine wpl_store rfl _ _ _ rfl #[ct [], ct [112, 117, 115, 104], ct [103, 101, 116], ct [112, 117, 116], ct [108, 111, 97, 100], ct [115, 116, 111, 114, 101], ct [117, 110], ct [98, 105, 110], ct [106, 117, 109, 112], ct [117, 110, 108, 101, 115, 115], ct [99, 97, 108, 108], ct [114, 101, 116, 117, 114, 110], ct [115, 104, 111, 119], ct [102, 97, 105, 108], ct [105, 110, 112, 117, 116], ct [116, 114, 121], ct [117, 110, 116, 114, 121], ct [100, 114, 111, 112]] #[ct [], ct [], ct [], ct [], ct [], ct [], ct [], ct [], ct [], ct [], ct [], ct [], ct [], ct [], ct [], ct [], ct [], ct []] _ rfl rfl (by kernel_rfl) rfl (by kernel_rfl) ?_
    intro a' ha; simp only [Act.put, List.setIfInBounds_toArray, List.set_cons_zero, List.set_cons_succ] at ha; subst ha
    obtain ⟨W1, hW1⟩ : ∃ W, W = w2.alloc (.cells #[ct [], ct [112, 117, 115, 104], ct [103, 101, 116], ct [112, 117, 116], ct [108, 111, 97, 100], ct [115, 116, 111, 114, 101], ct [117, 110], ct [98, 105, 110], ct [106, 117, 109, 112], ct [117, 110, 108, 101, 115, 115], ct [99, 97, 108, 108], ct [114, 101, 116, 117, 114, 110], ct [115, 104, 111, 119], ct [102, 97, 105, 108], ct [105, 110, 112, 117, 116], ct [116, 114, 121], ct [117, 110, 116, 114, 121], ct [100, 114, 111, 112]] 113 (0, 0)) := ⟨_, rfl⟩
    have fW1 : Fr (fun _ => False) w2 W1 := by rw [hW1]; exact Fr.alloc _ _ _
    have hl : W1.heap[w2.heap.size]? = some (.cells #[ct [], ct [112, 117, 115, 104], ct [103, 101, 116], ct [112, 117, 116], ct [108, 111, 97, 100], ct [115, 116, 111, 114, 101], ct [117, 110], ct [98, 105, 110], ct [106, 117, 109, 112], ct [117, 110, 108, 101, 115, 115], ct [99, 97, 108, 108], ct [114, 101, 116, 117, 114, 110], ct [115, 104, 111, 119], ct [102, 97, 105, 108], ct [105, 110, 112, 117, 116], ct [116, 114, 121], ct [117, 110, 116, 114, 121], ct [100, 114, 111, 112]] 113 (0, 0)) := by rw [hW1]; exact alloc_new _ _
    rw [← hW1]
    clear hW1
    generalize w2.heap.size = gl at hl ⊢
    have fwH : Hidden (Fr (fun _ => False) w W1) := fw2.same fW1
    obtain ⟨c0, c1, c2, c3⟩ := box4 (fW1.heap hbx (fun f => f))
    have cn : W1.cell? ⟨gl, k, none⟩ = some (ct (nmS (k : Int))) := by rw [cell_of_row _ _ k _ _ _ hl]; exact hat
    generalize hnm : nmS (k : Int) = nm at cn hnl hat
    have hnmH : Hidden (nmS (k : Int) = nm) := hnm
    have htW : Hidden (F.Tab W1) := tab_fr htH (show Fr _ w W1 from fwH)
    clear hl hat hbx fw2 fW1 hnm htH
    by_cases h1 : k = 1
    · subst h1
      have kw := rshow_any t b hb W1 htW
      have e1 : R = nm ++ [32] ++ showS t b := by
        rw [show R = _ from hRH, if_neg (by simp), show nmS ((1 : Nat) : Int) = nm from hnmH]
        rfl
      have hsl : (showS t b).length ≤ 4000 := showS_len t b hb
      generalize showS t b = O at kw e1 hsl
      have hc1 := fun W : World => run_string_add_lists (P := Tryz.prog) W nm [32] (by omega) (by simp)
      have hc2 := fun W : World => run_string_add_lists (P := Tryz.prog) W (nm ++ [32]) O (by simp; omega) (by omega)
      obtain ⟨N1, hN1⟩ : ∃ x, x = nm ++ [32] := ⟨_, rfl⟩
      rw [← hN1] at hc1 hc2 e1
      obtain ⟨R1, hR1⟩ : ∃ x, x = N1 ++ O := ⟨_, rfl⟩
      rw [← hR1] at hc2 e1
      clear hN1 hR1 hRH hnmH
      go_wp2_with (first
        | (go_at_call 45; refine kw.mono ?_; rintro e w3 ⟨rfl, f3⟩))
      go_ret
      exact ⟨by rw [e1]; rfl, (show Fr _ w W1 from fwH).same f3⟩
    have h1b : ((k : Int) == 1) = false := by simp; omega
    by_cases h6 : k = 6
    · subst h6
      have l1 : lo ((6 : Nat) : Int) = 1 := by decide
      have l2 : hi ((6 : Nat) : Int) = 4 := by decide
      rw [l1] at hlo
      rw [l2] at hhi
      obtain ⟨m, rfl⟩ : ∃ m : Nat, n = (m : Int) := ⟨n.toNat, by omega⟩
      have m1 : 1 ≤ m := by omega
      have m4 : m ≤ 4 := by omega
      have hau := un_at m m1 m4
      have e1 : R = nm ++ [32] ++ unW (m : Int) := by
        rw [show R = _ from hRH, if_neg (by decide), show nmS ((6 : Nat) : Int) = nm from hnmH]
        rfl
      have hul : (unW (m : Int)).length ≤ 10 := by
        unfold unW
        repeat' split
        all_goals simp
      have mi : (m : Int) < 5 := by omega
      have mi2 : m < 5 := by omega
      clear hlo hhi hRH hnmH l1 l2
      go_upto_region 8 with fail
      apply wp_region_lit
      refine wpl_build rfl _ _ rfl #[ct [], ct [110, 101, 103], ct [110, 111, 116], ct [105, 110, 116], ct [102, 108, 111, 97, 116]] (by kernel_rfl) ?_
      intro a' ha; simp only [Act.put, List.setIfInBounds_toArray, List.set_cons_zero, List.set_cons_succ] at ha; subst ha
      refine wpl_alloc rfl (.pointer (some ⟨W1.heap.size, 0, none⟩)) (.cells #[ct [], ct [], ct [], ct [], ct []] 115 (0, 0)) (by kernel_rfl) ?_
      intro a' ha; simp only [Act.put, List.setIfInBounds_toArray, List.set_cons_zero, List.set_cons_succ] at ha; subst ha
      refine wpl_store rfl _ _ _ rfl #[ct [], ct [110, 101, 103], ct [110, 111, 116], ct [105, 110, 116], ct [102, 108, 111, 97, 116]] #[ct [], ct [], ct [], ct [], ct []] _ rfl rfl (by kernel_rfl) rfl (by kernel_rfl) ?_
      intro a' ha; simp only [Act.put, List.setIfInBounds_toArray, List.set_cons_zero, List.set_cons_succ] at ha; subst ha
      obtain ⟨W2, hW2⟩ : ∃ W, W = W1.alloc (.cells #[ct [], ct [110, 101, 103], ct [110, 111, 116], ct [105, 110, 116], ct [102, 108, 111, 97, 116]] 115 (0, 0)) := ⟨_, rfl⟩
      have fW2 : Fr (fun _ => False) W1 W2 := by rw [hW2]; exact Fr.alloc _ _ _
      have hu : W2.heap[W1.heap.size]? = some (.cells #[ct [], ct [110, 101, 103], ct [110, 111, 116], ct [105, 110, 116], ct [102, 108, 111, 97, 116]] 115 (0, 0)) := by rw [hW2]; exact alloc_new _ _
      rw [← hW2]
      clear hW2
      generalize W1.heap.size = gu at hu ⊢
      have fwH2 : Hidden (Fr (fun _ => False) w W2) := (show Fr _ w W1 from fwH).same fW2
      replace c0 := fW2.cellN c0
      replace c1 := fW2.cellN c1
      replace cn := fW2.cellN cn
      have cu : W2.cell? ⟨gu, m, none⟩ = some (ct (unW (m : Int))) := by rw [cell_of_row _ _ m _ _ _ hu]; exact hau
      generalize unW (m : Int) = O at cu e1 hul hau
      have hc1 := fun W : World => run_string_add_lists (P := Tryz.prog) W nm [32] (by omega) (by simp)
      have hc2 := fun W : World => run_string_add_lists (P := Tryz.prog) W (nm ++ [32]) O (by simp; omega) (by omega)
      obtain ⟨N1, hN1⟩ : ∃ x, x = nm ++ [32] := ⟨_, rfl⟩
      rw [← hN1] at hc1 hc2 e1
      obtain ⟨R1, hR1⟩ : ∃ x, x = N1 ++ O := ⟨_, rfl⟩
      rw [← hR1] at hc2 e1
      clear hN1 hR1 hu hau fW2
      go_wp2_with fail
      go_ret
      exact ⟨by rw [e1]; rfl, fwH2⟩
    have h6b : ((k : Int) == 6) = false := by simp; omega
    by_cases h7 : k = 7
    · subst h7
      have l1 : lo ((7 : Nat) : Int) = 1 := by decide
      have l2 : hi ((7 : Nat) : Int) = 11 := by decide
      rw [l1] at hlo
      rw [l2] at hhi
      obtain ⟨m, rfl⟩ : ∃ m : Nat, n = (m : Int) := ⟨n.toNat, by omega⟩
      have m1 : 1 ≤ m := by omega
      have m4 : m ≤ 11 := by omega
      have hau := bi_at m m1 m4
      have e1 : R = nm ++ [32] ++ binW (m : Int) := by
        rw [show R = _ from hRH, if_neg (by decide), show nmS ((7 : Nat) : Int) = nm from hnmH]
        rfl
      have hul : (binW (m : Int)).length ≤ 10 := by
        unfold binW
        by_cases q : (m : Int) = 1
        · rw [if_pos q]; simp
        rw [if_neg q]
        repeat' split
        all_goals simp
      have mi : (m : Int) < 12 := by omega
      have mi2 : m < 12 := by omega
      clear hlo hhi hRH hnmH l1 l2
      go_upto_region 11 with fail
      apply wp_region_lit
      refine wpl_build rfl _ _ rfl #[ct [], ct [43], ct [45], ct [42], ct [47], ct [37], ct [61, 61], ct [33, 61], ct [60], ct [60, 61], ct [62], ct [62, 61]] (by kernel_rfl) ?_
      intro a' ha; simp only [Act.put, List.setIfInBounds_toArray, List.set_cons_zero, List.set_cons_succ] at ha; subst ha
      refine wpl_alloc rfl (.pointer (some ⟨W1.heap.size, 0, none⟩)) (.cells #[ct [], ct [], ct [], ct [], ct [], ct [], ct [], ct [], ct [], ct [], ct [], ct []] 116 (0, 0)) (by kernel_rfl) ?_
      intro a' ha; simp only [Act.put, List.setIfInBounds_toArray, List.set_cons_zero, List.set_cons_succ] at ha; subst ha
      refine wpl_store rfl _ _ _ rfl #[ct [], ct [43], ct [45], ct [42], ct [47], ct [37], ct [61, 61], ct [33, 61], ct [60], ct [60, 61], ct [62], ct [62, 61]] #[ct [], ct [], ct [], ct [], ct [], ct [], ct [], ct [], ct [], ct [], ct [], ct []] _ rfl rfl (by kernel_rfl) rfl (by kernel_rfl) ?_
      intro a' ha; simp only [Act.put, List.setIfInBounds_toArray, List.set_cons_zero, List.set_cons_succ] at ha; subst ha
      obtain ⟨W2, hW2⟩ : ∃ W, W = W1.alloc (.cells #[ct [], ct [43], ct [45], ct [42], ct [47], ct [37], ct [61, 61], ct [33, 61], ct [60], ct [60, 61], ct [62], ct [62, 61]] 116 (0, 0)) := ⟨_, rfl⟩
      have fW2 : Fr (fun _ => False) W1 W2 := by rw [hW2]; exact Fr.alloc _ _ _
      have hu : W2.heap[W1.heap.size]? = some (.cells #[ct [], ct [43], ct [45], ct [42], ct [47], ct [37], ct [61, 61], ct [33, 61], ct [60], ct [60, 61], ct [62], ct [62, 61]] 116 (0, 0)) := by rw [hW2]; exact alloc_new _ _
      rw [← hW2]
      clear hW2
      generalize W1.heap.size = gu at hu ⊢
      have fwH2 : Hidden (Fr (fun _ => False) w W2) := (show Fr _ w W1 from fwH).same fW2
      replace c0 := fW2.cellN c0
      replace c1 := fW2.cellN c1
      replace cn := fW2.cellN cn
      have cu : W2.cell? ⟨gu, m, none⟩ = some (ct (binW (m : Int))) := by rw [cell_of_row _ _ m _ _ _ hu]; exact hau
      generalize binW (m : Int) = O at cu e1 hul hau
      have hc1 := fun W : World => run_string_add_lists (P := Tryz.prog) W nm [32] (by omega) (by simp)
      have hc2 := fun W : World => run_string_add_lists (P := Tryz.prog) W (nm ++ [32]) O (by simp; omega) (by omega)
      obtain ⟨N1, hN1⟩ : ∃ x, x = nm ++ [32] := ⟨_, rfl⟩
      rw [← hN1] at hc1 hc2 e1
      obtain ⟨R1, hR1⟩ : ∃ x, x = N1 ++ O := ⟨_, rfl⟩
      rw [← hR1] at hc2 e1
      clear hN1 hR1 hu hau fW2
      go_wp2_with fail
      go_ret
      exact ⟨by rw [e1]; rfl, fwH2⟩
    have h7b : ((k : Int) == 7) = false := by simp; omega
    have kwd := fun W => rwidth_any (k : Int) W
    have hR3 : Hidden (R = if (k : Int) ≠ 1 ∧ wd (k : Int) = 0 then nmS (k : Int) else nmS (k : Int) ++ [32] ++ operS ⟨(k : Int), n, t, b⟩) := hRH
    have k1i : ¬ (k : Int) = 1 := by omega
    by_cases h0 : wd (k : Int) = 0
    · have e1 : R = nm := by rw [show R = _ from hRH, if_pos ⟨k1i, h0⟩]; exact hnmH
      rw [h0] at kwd
      clear hRH hR3 hnmH h0 h1 h6 h7 k1i
      go_wp2_with (first
        | (go_at_call 41; refine (kwd _).mono ?_; rintro e w3 ⟨rfl, rfl⟩))
      go_ret
      exact ⟨by rw [e1]; rfl, fwH⟩
    · have kd := D.rdec_is n hN W1
      have e1 : R = nm ++ [32] ++ Lib.itoa n := by
        rw [show R = _ from hRH, if_neg (fun h => h0 h.2), show nmS (k : Int) = nm from hnmH]
        unfold operS
        simp only []
        rw [if_neg k1i, if_neg (by omega), if_neg (by omega)]
      have hul : (Lib.itoa n).length ≤ 8000000 := by have := (D.itoa_len n hN).1; omega
      have hwp : decide ((0 : Int) < (wd (k : Int) : Int)) = true := by simp; omega
      generalize wd (k : Int) = wk at kwd hwp h0
      have hwp2 : 0 < wk := by omega
      have hwp3 : decide (0 < wk) = true := by simpa using hwp2
      generalize Lib.itoa n = O at kd e1 hul
      have hc1 := fun W : World => run_string_add_lists (P := Tryz.prog) W nm [32] (by omega) (by simp)
      have hc2 := fun W : World => run_string_add_lists (P := Tryz.prog) W (nm ++ [32]) O (by simp; omega) (by omega)
      obtain ⟨N1, hN1⟩ : ∃ x, x = nm ++ [32] := ⟨_, rfl⟩
      rw [← hN1] at hc1 hc2 e1
      obtain ⟨R1, hR1⟩ : ∃ x, x = N1 ++ O := ⟨_, rfl⟩
      rw [← hR1] at hc2 e1
      clear hN1 hR1 hRH hR3 hnmH h0 h1 h6 h7 k1i
      go_wp2_with (first
        | (go_at_call 41; refine (kwd _).mono ?_; rintro e w3 ⟨rfl, rfl⟩)
        | (go_at_call 29; refine kd.mono ?_; rintro e w4 ⟨rfl, f4⟩))
      go_ret
      exact ⟨by rw [e1]; rfl, (show Fr (fun _ => False) w _ from fwH).same (kb_frD f4)⟩
  · have hr' : rightS i = false := by simpa using hr
    rw [hr'] at kr
    have e : textS i = [] := by unfold textS; rw [if_neg hr]
    rw [e]
    clear e hr hr' hol
    obtain ⟨op, n, t, b⟩ := i
    go_enter Tryz.func30, Tryz.ntmps30
    go_wp2_with (first
      | (go_at_call 23; refine (kr _).mono ?_; rintro e w1 ⟨rfl, f1⟩))
    go_ret
    exact ⟨rfl, (Fr.alloc _ _ _).same f1⟩
end Go.Proofs.YtmkacbpeaggcpaaGreatDoor.Cd
