/- The document's printing (5): a module. -/
import Derived.Test.YteijjaabngkbjaaGreatDoorPvB
import Derived.Test.YteijjaabngkbjaaGreatDoorPvD
import Derived.Test.YteijjaabngkbjaaGreatDoorTrXr
import Derived.Test.YteijjaabngkbjaaGreatDoorLxR8
import Derived.Test.YteijjaabngkbjaaGreatDoorPzA
import Derived.Laws.IdiomStrings
namespace Go.Proofs.YteijjaabngkbjaaGreatDoor.V
open Go.RowKit Te
set_option linter.unusedSimpArgs false
set_option linter.unusedVariables false

theorem ow_str {w0 w : World} {B cap : Nat} {ao : Option Addr} {Z : Bs} (h : OW w0 B (.slice ao Z.length cap) Z w) (hz : Z ≠ []) : (convert 46 9 (.slice ao Z.length cap)).run Tryz.prog w = .ok (.string ⟨Z.toArray⟩) w := by
  have hown := h.own
  rcases hown.2 with ⟨_, h0⟩ | ⟨g, cap', cur, hv, hb, hg, _⟩
  · exact absurd (List.eq_nil_of_length_eq_zero h0) hz
  · simp only [Value.slice.injEq, true_and] at hv
    obtain ⟨rfl, rfl⟩ := hv
    exact run_convert_bytes_back w 46 9 5 ⟨g, 0, none⟩ cap Z Tryz.underlying46 Tryz.underlying5 Tryz.underlying9 (fun j hj => hown.cells (g := g) rfl j _ (by simp [Lib.byteCells, hj]))
theorem deT_hd {d : De} (hk : d.kind = 1 ∨ d.kind = 2 ∨ d.kind = 3) : deT txS d = hdT d ++ [10] ++ (if d.kind = 3 then stT txS d.body 1 ++ [125, 10] else []) := by
  unfold deT hdT
  rcases hk with hk | hk | hk
  · simp [hk]
  · simp [hk]
  · simp [hk]
theorem fits_kind {d : De} (h : errD rnS cnS d = 0) : d.kind = 1 ∨ d.kind = 2 ∨ d.kind = 3 := by
  unfold errD at h
  obtain ⟨a1, a2⟩ := Pz.orE_0 h
  obtain ⟨a3, _⟩ := Pz.orE_0 a2
  have hfit := Pz.ifx (c := fitsD d = true) a3 (by decide)
  unfold fitsD at hfit
  by_cases k1 : d.kind = 1
  · exact Or.inl k1
  by_cases k2 : d.kind = 2
  · exact Or.inr (Or.inl k2)
  by_cases k3 : d.kind = 3
  · exact Or.inr (Or.inr k3)
  rw [if_neg k1, if_neg k2, if_neg k3] at hfit
  cases hfit
theorem body_lin {d : De} (h : errD rnS cnS d = 0) (hO : OkD d) (hk : d.kind = 3) : LinW d.body 1 := by
  unfold errD at h
  obtain ⟨a1, a2⟩ := Pz.orE_0 h
  obtain ⟨_, a4⟩ := Pz.orE_0 a2
  obtain ⟨_, a6⟩ := Pz.orE_0 a4
  obtain ⟨_, a8⟩ := Pz.orE_0 a6
  obtain ⟨_, b1⟩ := Pz.orE_0 a8
  obtain ⟨_, b3⟩ := Pz.orE_0 b1
  have hdd : dD d ≤ 32 := by
    apply Classical.byContradiction
    intro hc
    rw [if_pos (by omega)] at a1
    exact absurd a1 (by decide)
  exact lin_any d.body 1 1 (by decide) b3 hO.body (by have := (Pz.dD_of hdd).2 hk; simpa using this)
set_option maxRecDepth 20000 in
set_option maxHeartbeats 1000000 in
theorem print_bad (m : Mo) (v : Value) (w : World) (hok : OkM m) (hv : MoI w m v) (E : Int) (hE : Hidden (errM rnS cnS m = E)) (hne : (E != 0) = true) :
    Calls Tryz.prog 9 #[v] w fun e w' => e = .returned (.tuple #[ct [], ci E]) ∧ Fr (fun _ => False) w w' := by
  have hv0 := hv
  obtain ⟨ao, cap, aod, capd, rfl, hs, hds⟩ := hv
  have f0 := Fr.alloc (fun _ => False) w (moO m (.slice ao m.imports.length cap) (.slice aod m.decls.length capd))
  have kr := X.right_m m _ _ (hv0.keep f0) hok E hE
  go_enter Tryz.func9, Tryz.ntmps9
  go_wp2_with fail
  go_at_call 18
  refine kr.mono ?_
  rintro e w2 ⟨rfl, f2⟩
  go_wp2_with fail
  go_ret2
  exact ⟨rfl, f0.same f2⟩
set_option maxRecDepth 20000 in
set_option maxHeartbeats 20000000 in
theorem print_ok (m : Mo) (v : Value) (w : World) (hok : OkM m) (hv : MoI w m v) (he : errM rnS cnS m = 0) (T : Bs) (hT : Hidden (moT txS m = T)) (hl : T.length ≤ 140737488351232) (code : Int) (q : Nat) (ts : List Lx.Tok) (hx : Hidden (Lx.lexS wordsL valS T = (ts, q, code))) (R : Bs × Int) (hR : Hidden (R = if code = 3 then ([], 3) else (T, 0))) :
    Calls Tryz.prog 9 #[v] w fun e w' => e = .returned (.tuple #[ct R.1, ci R.2]) ∧ Fr (fun _ => False) w w' := by
  have hv0 := hv
  obtain ⟨ao, cap, aod, capd, rfl, hs, hds⟩ := hv
  have m1 : cap ≤ 9223372036854775807 := by have := hs.2.1; unfold maxLen at this; omega
  have m2 : capd ≤ 9223372036854775807 := by have := hds.2.1; unfold maxLen at this; omega
  have l1 := hs.1
  have l2 := hds.1
  have f0 := Fr.alloc (fun _ => False) w (moO m (.slice ao m.imports.length cap) (.slice aod m.decls.length capd))
  have hq0 : Hidden ((w.alloc (moO m (.slice ao m.imports.length cap) (.slice aod m.decls.length capd))).heap[w.heap.size]? = some (moO m (.slice ao m.imports.length cap) (.slice aod m.decls.length capd))) := alloc_new _ _
  have kr := X.right_m m _ _ (hv0.keep f0) hok 0 he
  have hed := errM_decls he
  have hbig3 : 4096 < T.length → R = ([], 3) := by
    intro h
    have h1 := (show Lx.lexS wordsL valS T = _ from hx)
    unfold Lx.lexS at h1
    rw [if_pos h] at h1
    simp only [Prod.mk.injEq] at h1
    rw [show R = _ from hR, if_pos h1.2.2.symm]
  have hbig3H : Hidden (4096 < T.length → R = ([], 3)) := hbig3
  clear he hbig3
  go_enter Tryz.func9, Tryz.ntmps9
  go_wp2_with fail
  go_at_call 18
  refine kr.mono ?_
  rintro e w2 ⟨rfl, f2⟩
  have g2 := f0.same f2
  have hq2 := f2.heap hq0 (fun f => f)
  obtain ⟨c0, c1, c2⟩ := mo_box hq2
  have hT0 : Hidden ([109, 111, 100, 117, 108, 101, 32] ++ m.name ++ [59, 10] ++ (m.imports.flatMap impT ++ m.decls.flatMap (deT txS)) = T) := by
    show _ = T
    rw [← (show _ = T from hT)]
    exact (List.append_assoc _ _ _).symm
  obtain ⟨S1, hS1⟩ : ∃ S : Bs, ([109, 111, 100, 117, 108, 101, 32] : Bs) ++ m.name = S := ⟨_, rfl⟩
  obtain ⟨S2, hS2⟩ : ∃ S : Bs, S1 ++ ([59, 10] : Bs) = S := ⟨_, rfl⟩
  have hTs : Hidden (S2 ++ (m.imports.flatMap impT ++ m.decls.flatMap (deT txS)) = T) := by
    show _ = T
    rw [← hS2, ← hS1]
    exact hT0
  have lS2 : S2.length ≤ 140737488355328 := app_le (show _ = T from hTs) (by omega)
  have lS1 : S1.length ≤ 140737488355328 := by rw [← hS2, List.length_append] at lS2; omega
  have cS1 := fun w => X.catv [109, 111, 100, 117, 108, 101, 32] m.name S1 hS1 (by omega) w
  have cS2 := fun w => X.catv S1 [59, 10] S2 hS2 (by omega) w
  have hnil : Hidden ([] ++ S2 = S2) := rfl
  have hn0 : S2 ≠ [] := by rw [← hS2]; simp
  have hn0H : Hidden (S2 ≠ []) := hn0
  clear hS1 hS2 hT0 hT hn0
  have f2b : Hidden (Fr (fun _ => False) w w2) := g2
  go_wp2_with (at_builtin; go_must (refine wpList_by rfl _ _ rfl w2 w2.heap.size _ [] S2 S2 rfl rfl (OW.nil w2) hnil lS2 ?_); intro aoa capa w3 hca hma how3 fa; obtain ⟨e0, e1, e2⟩ := mo_box (how3.fr.heap hq2 (fun f => f)))
  clear e0 e1 e2 c0 c1 c2
  go_loopg [5, 6] m.imports.length (fun g ov iv wr => ∃ (i : Nat) (vo : Value) (A : Bs), vo = ov ∧ iv = ci (i : Int) ∧ i ≤ m.imports.length ∧ A ++ ((m.imports.drop i).flatMap impT ++ m.decls.flatMap (deT txS)) = T ∧ A ≠ [] ∧ g = m.imports.length - i ∧ OW w2 w2.heap.size vo A wr)
  case atStart => exact ⟨0, _, S2, rfl, rfl, by omega, hTs, hn0H, rfl, how3⟩
  case round =>
    obtain ⟨i, vo, A, rfl, rfl, hi, hA, hAn, hgk, how⟩ := hrel
    have hgkH : Hidden (gk = m.imports.length - i) := hgk
    have hAH : Hidden (A ++ ((m.imports.drop i).flatMap impT ++ m.decls.flatMap (deT txS)) = T) := hA
    have hAnH : Hidden (A ≠ []) := hAn
    obtain ⟨aoo, capo, rfl, hcl, hcm⟩ := how.shape
    obtain ⟨c0, c1, c2⟩ := mo_box (how.fr.heap hq2 (fun f => f))
    clear hgk hA hTs hAn
    by_cases hil : i < m.imports.length
    · obtain ⟨x, hxi⟩ : ∃ x, m.imports[i]? = some x := ⟨m.imports[i], List.getElem?_eq_getElem hil⟩
      rcases hs.2.2 with h0 | ⟨bb, off, rfl, hcp⟩
      · rw [h0] at hil; simp at hil
      have d0 := how.fr.cellN (g2.cellN (hcp i x hxi))
      obtain ⟨Q1, hQ1⟩ : ∃ S : Bs, ([105, 109, 112, 111, 114, 116, 32] : Bs) ++ x = S := ⟨_, rfl⟩
      obtain ⟨Q2, hQ2⟩ : ∃ S : Bs, Q1 ++ ([59, 10] : Bs) = S := ⟨_, rfl⟩
      obtain ⟨A2, hA2'⟩ : ∃ S : Bs, A ++ Q2 = S := ⟨_, rfl⟩
      have hT2 : Hidden (A2 ++ ((m.imports.drop (i + 1)).flatMap impT ++ m.decls.flatMap (deT txS)) = T) := by
        show _ = T
        rw [← (show _ = T from hAH), drop_at hxi, ← hA2', ← hQ2, ← hQ1]
        simp
      have lA2 : A2.length ≤ 140737488355328 := app_le (show _ = T from hT2) (by omega)
      have lQ2 : Q2.length ≤ 140737488355328 := by rw [← hA2', List.length_append] at lA2; omega
      have lQ1 : Q1.length ≤ 140737488355328 := by rw [← hQ2, List.length_append] at lQ2; omega
      have cQ1 := fun w => X.catv [105, 109, 112, 111, 114, 116, 32] x Q1 hQ1 (by omega) w
      have cQ2 := fun w => X.catv Q1 [59, 10] Q2 hQ2 (by omega) w
      have hA2 : Hidden (A ++ Q2 = A2) := hA2'
      have hA2n : Hidden (A2 ≠ []) := by
        show A2 ≠ []
        rw [← hA2']
        intro h
        exact hAnH (List.append_eq_nil_iff.1 h).1
      clear hA2' hQ1 hQ2 hAH hxi
      go_wp2_with (at_builtin; go_must (refine wpList_by rfl _ _ rfl w2 w2.heap.size _ A Q2 A2 rfl rfl how hA2 lA2 ?_); intro aob capb w4 hcb hmb how4 fb)
      go_roundg (m.imports.length - (i + 1))
      case measure =>
        have : gk = m.imports.length - i := hgkH
        omega
      case rel => exact ⟨i + 1, _, A2, rfl, by go_num, by omega, hT2, hA2n, rfl, how4⟩
    · obtain rfl : i = m.imports.length := by omega
      have hT2 : Hidden (A ++ m.decls.flatMap (deT txS) = T) := by
        show _ = T
        rw [← (show _ = T from hAH), List.drop_length]
        rfl
      clear hAH
      obtain ⟨V, hV⟩ : ∃ V, V = wr := ⟨wr, rfl⟩
      rw [← hV] at how c0 c1 c2 ⊢
      clear hV
      go_wp2_with fail
      clear c0 c1 c2
      go_loopg [5, 7] m.decls.length (fun g ov iv wr => ∃ (i : Nat) (vo : Value) (A Z : Bs), vo = ov ∧ iv = ci (i : Int) ∧ i ≤ m.decls.length ∧ A ++ (m.decls.drop i).flatMap (deT txS) = T ∧ Z ≠ [] ∧ g = m.decls.length - i ∧ OW w2 w2.heap.size vo Z wr ∧ Zo A Z)
      case atStart => exact ⟨0, _, A, A, rfl, rfl, by omega, hT2, hAnH, rfl, how, Zo.refl A⟩
      case round =>
        obtain ⟨j, vo, A9, Z, rfl, rfl, hj, hA9, hZn, hgk2, how9, hzo⟩ := hrel
        have hgkH2 : Hidden (gk = m.decls.length - j) := hgk2
        have hA9H : Hidden (A9 ++ (m.decls.drop j).flatMap (deT txS) = T) := hA9
        have hZnH : Hidden (Z ≠ []) := hZn
        have hZA : Z.length ≤ A9.length := hzo.2.2
        have hA9l : A9.length ≤ 140737488351232 := by have := app_le hA9 (show T.length ≤ 140737488355328 by omega); rw [← hA9, List.length_append] at hl; omega
        obtain ⟨aoz, capz, rfl, hcz, hmz⟩ := how9.shape
        obtain ⟨c0, c1, c2⟩ := mo_box (how9.fr.heap hq2 (fun f => f))
        have kst := ow_str how9 hZn
        clear hgk2 hA9 hT2 hZn
        by_cases hbig : Z.length ≤ 4096
        rotate_left
        · have hR3 : R = ([], 3) := by
            apply hbig3H
            have h9 := (hzo.stop (by omega) ((m.decls.drop j).flatMap (deT txS))).2.2
            rw [show _ = T from hA9H] at h9
            omega
          have hnb : ¬ (Z.length : Int) ≤ 4096 := by omega
          have hb4 : (4096 : Int) < (Z.length : Int) := by omega
          clear hA9H hR hbig3H
          subst hR3
          by_cases hjl : j < m.decls.length
          all_goals
            go_wp2_with fail
            go_ret2
            exact ⟨rfl, g2.same how9.fr⟩
        by_cases hjl : j < m.decls.length
        · obtain ⟨d, hdi⟩ : ∃ d, m.decls[j]? = some d := ⟨m.decls[j], List.getElem?_eq_getElem hjl⟩
          have hdm : d ∈ m.decls := List.mem_of_getElem? hdi
          have hde := hed d hdm
          have hdo := hok.decls d hdm
          have hkd := fits_kind hde
          rcases hds.2.2 with h0 | ⟨bb, off, rfl, hcp⟩
          · rw [h0] at hjl; simp at hjl
          obtain ⟨pv, ev, bv, hI, hcc⟩ := hcp j d hdi
          have ff := g2.same how9.fr
          have d0 : wr.cell? ⟨bb, off + j * 7, none⟩ = some (ci d.kind) := ff.cellN (hcc 0 _ rfl)
          have d1 := ff.cellN (hcc 1 _ rfl)
          have d2 := ff.cellN (hcc 2 _ rfl)
          have d3 := ff.cellN (hcc 3 _ rfl)
          have d4 := ff.cellN (hcc 4 _ rfl)
          have d5 := ff.cellN (hcc 5 _ rfl)
          have d6 := ff.cellN (hcc 6 _ rfl)
          have hI2 := hI.keep g2
          obtain ⟨ao1, cap1, ao2, cap2, ao3, cap3, rfl, rfl, rfl, hpa, hea, hba⟩ := hI
          have n3 : cap3 ≤ 9223372036854775807 := by have := hba.2.1; unfold maxLen at this; omega
          have n3' := hba.1
          have fb := Fr.alloc (fun _ => False) wr (deO d.kind d.ex d.name d.type (.slice ao1 d.params.length cap1) (.slice ao2 d.e.len cap2) (.slice ao3 d.body.len cap3))
          have hbx : Hidden ((wr.alloc (deO d.kind d.ex d.name d.type (.slice ao1 d.params.length cap1) (.slice ao2 d.e.len cap2) (.slice ao3 d.body.len cap3))).heap[wr.heap.size]? = some (deO d.kind d.ex d.name d.type (.slice ao1 d.params.length cap1) (.slice ao2 d.e.len cap2) (.slice ao3 d.body.len cap3))) := alloc_new _ _
          have hsp := deT_hd hkd
          obtain ⟨Hd, hHd⟩ : ∃ S : Bs, hdT d = S := ⟨_, rfl⟩
          rw [hHd] at hsp
          obtain ⟨Q1, hQ1⟩ : ∃ S : Bs, Hd ++ ([10] : Bs) = S := ⟨_, rfl⟩
          obtain ⟨A2, hA2'⟩ : ∃ S : Bs, A9 ++ Q1 = S := ⟨_, rfl⟩
          obtain ⟨Z2, hZ2'⟩ : ∃ S : Bs, Z ++ Q1 = S := ⟨_, rfl⟩
          have hT3 : Hidden (A2 ++ (if d.kind = 3 then stT txS d.body 1 ++ [125, 10] else []) ++ (m.decls.drop (j + 1)).flatMap (deT txS) = T) := by
            show _ = T
            rw [← (show _ = T from hA9H), drop_at hdi, ← hA2', ← hQ1, List.flatMap_cons, hsp]
            simp
          have zZ2 : Zo A2 Z2 := by rw [← hA2', ← hZ2']; exact hzo.app _
          have lA2 : A2.length ≤ 140737488351232 := by
            have h9 := hl
            rw [← (show _ = T from hT3)] at h9
            simp only [List.length_append] at h9
            omega
          have lZ2 : Z2.length ≤ 140737488355328 := by have := zZ2.2.2; omega
          have lQ1 : Q1.length ≤ 140737488351232 := by rw [← hA2', List.length_append] at lA2; omega
          have lHd : Hd.length ≤ 140737488351232 := by rw [← hQ1, List.length_append] at lQ1; omega
          have cQ1 := fun w => X.catv Hd [10] Q1 hQ1 (by omega) w
          have khd := head_w d _ _ _ _ ((hI2.keep how9.fr).keep fb) hde hdo Hd hHd (by omega)
          have hZ2 : Hidden (Z ++ Q1 = Z2) := hZ2'
          have hZ2n : Hidden (Z2 ≠ []) := by
            show Z2 ≠ []
            rw [← hZ2']
            intro h
            exact hZnH (List.append_eq_nil_iff.1 h).1
          clear hA2' hZ2' hQ1 hsp hA9H hdi hHd hcc hcp
          go_wp2_with fail
          go_at_call 19
          refine khd.mono ?_
          rintro e w5 ⟨rfl, f5⟩
          have how5 := how9.quiet (fb.same f5)
          have hb5 := f5.heap hbx (fun f => f)
          by_cases k3 : d.kind = 3
          · have kln := body_lin hde hdo k3
            have hT4 : Hidden (A2 ++ stT txS d.body 1 ++ [125, 10] ++ (m.decls.drop (j + 1)).flatMap (deT txS) = T) := by
              show _ = T
              rw [← (show _ = T from hT3), if_pos k3]
              simp
            obtain ⟨T5, hT5'⟩ : ∃ S : Bs, A2 ++ stT txS d.body 1 = S := ⟨_, rfl⟩
            have hT5 : Hidden (A2 ++ stT txS d.body 1 = T5) := hT5'
            have lT5 : (T5 ++ [125, 10]).length ≤ 140737488351232 := by
              have h9 := hl
              rw [← (show _ = T from hT4), hT5'] at h9
              simp only [List.length_append] at h9 ⊢
              omega
            have hT6 : Hidden (T5 ++ [125, 10] ++ (m.decls.drop (j + 1)).flatMap (deT txS) = T) := by
              show _ = T
              rw [← (show _ = T from hT4), hT5']
            have k3b : (d.kind == 3) = true := by simp [k3]
            clear hT3 hT4 hT5' k3
            go_wp2_with (at_builtin; go_must (refine wpList_by rfl _ _ rfl w2 w2.heap.size _ Z Q1 Z2 rfl rfl how5 hZ2 lZ2 ?_); intro aoc capc w6 hcc6 hmc6 how6 f6; have hb6 := by_keep f6 hb5 (by decide); obtain ⟨y0, y1, y2, y3, y4, y5, y6⟩ := ex_box hb6)
            go_at_call 20
            refine (kln 1 rfl ao3 cap3 w2 _ w2.heap.size _ Z2 A2 T5 (hba.keep g2) how6 zZ2 hT5 (by rw [List.length_append] at lT5; omega)).mono ?_
            rintro e w7 ⟨v7, Z7, rfl, how7, z7, f7⟩
            obtain ⟨aod7, capd7, rfl, h71, h72⟩ := how7.shape
            obtain ⟨Z8, hZ8'⟩ : ∃ S : Bs, Z7 ++ ([125, 10] : Bs) = S := ⟨_, rfl⟩
            have hZ8 : Hidden (Z7 ++ [125, 10] = Z8) := hZ8'
            have zZ8 : Hidden (Zo (T5 ++ [125, 10]) Z8) := by show Zo _ _; rw [← hZ8']; exact z7.app _
            have lZ8 : Z8.length ≤ 140737488355328 := by have := (show Zo _ Z8 from zZ8).2.2; omega
            have hZ8n : Hidden (Z8 ≠ []) := by show Z8 ≠ []; rw [← hZ8']; simp
            clear hZ8'
            go_wp2_with (at_builtin; go_must (refine wpList_by rfl _ _ rfl w2 w2.heap.size _ Z7 [125, 10] Z8 rfl rfl how7 hZ8 lZ8 ?_); intro aoe cape w8 hce8 hme8 how8 f8)
            go_roundg (m.decls.length - (j + 1))
            case measure =>
              have : gk = m.decls.length - j := hgkH2
              omega
            case rel => exact ⟨j + 1, _, _, Z8, rfl, by go_num, by omega, hT6, hZ8n, rfl, how8, zZ8⟩
          · have hT6 : Hidden (A2 ++ (m.decls.drop (j + 1)).flatMap (deT txS) = T) := by
              show _ = T
              rw [← (show _ = T from hT3), if_neg k3]
              simp
            have k3b : (d.kind == 3) = false := by simp [k3]
            clear hT3 k3
            go_wp2_with (at_builtin; go_must (refine wpList_by rfl _ _ rfl w2 w2.heap.size _ Z Q1 Z2 rfl rfl how5 hZ2 lZ2 ?_); intro aoc capc w6 hcc6 hmc6 how6 f6; have hb6 := by_keep f6 hb5 (by decide); obtain ⟨y0, y1, y2, y3, y4, y5, y6⟩ := ex_box hb6)
            go_roundg (m.decls.length - (j + 1))
            case measure =>
              have : gk = m.decls.length - j := hgkH2
              omega
            case rel => exact ⟨j + 1, _, A2, Z2, rfl, by go_num, by omega, hT6, hZ2n, rfl, how6, zZ2⟩
        · obtain rfl : j = m.decls.length := by omega
          have hAT : A9 = T := by
            rw [← (show _ = T from hA9H), List.drop_length]
            simp
          subst hAT
          clear hA9H
          have hTl : A9.length ≤ 4096 := by
            apply Classical.byContradiction
            intro hc
            have := hzo.2.1 (by omega)
            omega
          have hZT : Z = A9 := hzo.1 hTl
          subst hZT
          have kx := rlex_any Z ts q code (by omega) hx wr
          go_wp2_with fail
          go_at_call 21
          refine kx.mono ?_
          rintro e w9 ⟨v9, rfl, _, f9⟩
          have how10 := how9.quiet f9
          have kst2 := ow_str how10 hZnH
          by_cases hc3 : code = 3
          · have hRe : R = ([], 3) := by rw [show R = _ from hR, if_pos hc3]
            clear hR
            subst hRe
            have hc3b : (code == 3) = true := by simp [hc3]
            clear hc3
            go_wp2_with fail
            go_ret2
            exact ⟨rfl, g2.same how10.fr⟩
          · have hRe : R = (Z, 0) := by rw [show R = _ from hR, if_neg hc3]
            clear hR
            subst hRe
            have hc3b : (code == 3) = false := by simp [hc3]
            clear hc3
            go_wp2_with fail
            go_ret2
            exact ⟨rfl, g2.same how10.fr⟩
/-- What the document prints of any module that is not too great. -/
theorem print_up (m : Mo) (v : Value) (w : World) (hok : OkM m) (hv : MoI w m v) (hsz : m.imports.length + Pz.fDs m.decls ≤ 10000000) :
    Calls Tryz.prog 9 #[v] w fun e w' => e = .returned (.tuple #[ct (prS m).1, ci (prS m).2]) ∧ Fr (fun _ => False) w w' := by
  by_cases he : errM rnS cnS m = 0
  · refine print_ok m v w hok hv he _ rfl (by have := mo_len m he (fun d hd => nnD_of (hok.decls d hd)) hsz; omega) (Lx.lexS wordsL valS (moT txS m)).2.2 (Lx.lexS wordsL valS (moT txS m)).2.1 (Lx.lexS wordsL valS (moT txS m)).1 rfl (prS m) ?_
    show _ = _
    unfold prS
    rw [if_pos he]
  · have e : prS m = ([], errM rnS cnS m) := by unfold prS; rw [if_neg he]
    rw [e]
    exact print_bad m v w hok hv _ rfl (by simpa using he)
end Go.Proofs.YteijjaabngkbjaaGreatDoor.V
