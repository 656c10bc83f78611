/- The program's Same of declarations and modules. -/
import Derived.Test.YtncachlopnpcjaaGreatDoorTrQ3
namespace Go.Proofs.YtncachlopnpcjaaGreatDoor
open Go.RowKit Te
set_option linter.unusedSimpArgs false
set_option linter.unusedVariables false

set_option maxRecDepth 20000 in
set_option maxHeartbeats 4000000 in
theorem sameD_any (d d2 : De) (pv ev bv pv2 ev2 bv2 : Value) (w : World) (h1 : DeI w d pv ev bv) (h2 : DeI w d2 pv2 ev2 bv2) :
    Calls Tryz.prog 16 #[deV d pv ev bv, deV d2 pv2 ev2 bv2] w fun ee w' => ee = .returned (.bool (decide (d = d2))) ∧ Fr (fun _ => False) w w' := by
  obtain ⟨ao1, cap1, ao2, cap2, ao3, cap3, rfl, rfl, rfl, p1, p2, p3⟩ := h1
  obtain ⟨ao1', cap1', ao2', cap2', ao3', cap3', rfl, rfl, rfl, q1, q2, q3⟩ := h2
  obtain ⟨kind, ex, name, type, params, e, body⟩ := d
  obtain ⟨kind2, ex2, name2, type2, params2, e2, body2⟩ := d2
  simp only at p1 p2 p3 q1 q2 q3
  by_cases hh : kind = kind2 ∧ ex = ex2 ∧ name = name2 ∧ type = type2
  · obtain ⟨rfl, rfl, rfl, rfl⟩ := hh
    have f0 : Fr (fun _ => False) w ((w.alloc (.cells #[ci kind, .bool ex, ct name, ci type, .slice ao1 params.length cap1, .slice ao2 e.len cap2, .slice ao3 body.len cap3] 47)).alloc (.cells #[ci kind, .bool ex, ct name, ci type, .slice ao1' params2.length cap1', .slice ao2' e2.len cap2', .slice ao3' body2.len cap3'] 47)) := (Fr.alloc _ _ _).same (Fr.alloc _ _ _)
    have x1 : Hidden (((w.alloc (.cells #[ci kind, .bool ex, ct name, ci type, .slice ao1 params.length cap1, .slice ao2 e.len cap2, .slice ao3 body.len cap3] 47)).alloc (.cells #[ci kind, .bool ex, ct name, ci type, .slice ao1' params2.length cap1', .slice ao2' e2.len cap2', .slice ao3' body2.len cap3'] 47)).heap[w.heap.size]? = some (.cells #[ci kind, .bool ex, ct name, ci type, .slice ao1 params.length cap1, .slice ao2 e.len cap2, .slice ao3 body.len cap3] 47 (0, 0))) := (Fr.alloc (fun _ => False) _ _).heap (alloc_new _ _) (fun f => f)
    have x2 : Hidden (((w.alloc (.cells #[ci kind, .bool ex, ct name, ci type, .slice ao1 params.length cap1, .slice ao2 e.len cap2, .slice ao3 body.len cap3] 47)).alloc (.cells #[ci kind, .bool ex, ct name, ci type, .slice ao1' params2.length cap1', .slice ao2' e2.len cap2', .slice ao3' body2.len cap3'] 47)).heap[w.heap.size + 1]? = some (.cells #[ci kind, .bool ex, ct name, ci type, .slice ao1' params2.length cap1', .slice ao2' e2.len cap2', .slice ao3' body2.len cap3'] 47 (0, 0))) := (congrArg _ (by simp)).trans (alloc_new _ _)
    have kp := eqP_any params params2 ao1 ao1' cap1 cap1' _ (p1.keep f0) (q1.keep f0) _ rfl
    have ke2 := fun (w1 : World) (f : Fr (fun _ => False) w w1) => sameL_any e e2 ao2 ao2' cap2 cap2' w1 (p2.keep f) (q2.keep f)
    have kb2 := fun (w1 : World) (f : Fr (fun _ => False) w w1) => sameB_any body body2 ao3 ao3' cap3 cap3' w1 (p3.keep f) (q3.keep f)
    rw [show decide ((⟨kind, ex, name, type, params, e, body⟩ : De) = ⟨kind, ex, name, type, params2, e2, body2⟩) = (decide (params = params2) && (decide (e = e2) && decide (body = body2))) by rw [Bool.eq_iff_iff]; simp]
    generalize decide (params = params2) = rp at kp
    generalize decide (e = e2) = re at ke2
    generalize decide (body = body2) = rb at kb2
    cases rp
    · go_enter Tryz.func16, Tryz.ntmps16
      go_wp2_with fail
      go_at_call 28
      refine (kp).mono ?_
      rintro ee w1 ⟨rfl, f1⟩
      go_wp2_with fail
      go_ret
      refine ⟨?_, (f0).same f1⟩
      first | rfl | (cases rb <;> rfl)
    · cases re
      · go_enter Tryz.func16, Tryz.ntmps16
        go_wp2_with fail
        go_at_call 28
        refine (kp).mono ?_
        rintro ee w1 ⟨rfl, f1⟩
        have y01 := f1.heap x1 (fun f => f)
        have y02 := f1.heap x2 (fun f => f)
        obtain ⟨c0, c1, c2, c3, c4, c5, c6⟩ := ex_box y01
        obtain ⟨d0, d1, d2, d3, d4, d5, d6⟩ := ex_box y02
        go_wp2_with fail
        go_at_call 29
        refine (ke2 _ (f0.same f1)).mono ?_
        rintro ee w2 ⟨rfl, f2⟩
        go_wp2_with fail
        go_ret
        refine ⟨?_, ((f0).same f1).same f2⟩
        first | rfl | (cases rb <;> rfl)
      · go_enter Tryz.func16, Tryz.ntmps16
        go_wp2_with fail
        go_at_call 28
        refine (kp).mono ?_
        rintro ee w1 ⟨rfl, f1⟩
        have y01 := f1.heap x1 (fun f => f)
        have y02 := f1.heap x2 (fun f => f)
        obtain ⟨c0, c1, c2, c3, c4, c5, c6⟩ := ex_box y01
        obtain ⟨d0, d1, d2, d3, d4, d5, d6⟩ := ex_box y02
        go_wp2_with fail
        go_at_call 29
        refine (ke2 _ (f0.same f1)).mono ?_
        rintro ee w2 ⟨rfl, f2⟩
        have y11 := f2.heap y01 (fun f => f)
        have y12 := f2.heap y02 (fun f => f)
        obtain ⟨c0, c1, c2, c3, c4, c5, c6⟩ := ex_box y11
        obtain ⟨d0, d1, d2, d3, d4, d5, d6⟩ := ex_box y12
        go_wp2_with fail
        go_at_call 31
        refine (kb2 _ ((f0.same f1).same f2)).mono ?_
        rintro ee w3 ⟨rfl, f3⟩
        go_wp2_with fail
        go_ret
        refine ⟨?_, (((f0).same f1).same f2).same f3⟩
        first | rfl | (cases rb <;> rfl)
  · rw [show decide ((⟨kind, ex, name, type, params, e, body⟩ : De) = ⟨kind2, ex2, name2, type2, params2, e2, body2⟩) = false by
      simp only [decide_eq_false_iff_not, De.mk.injEq]
      exact fun hc => hh ⟨hc.1, hc.2.1, hc.2.2.1, hc.2.2.2.1⟩]
    have hhH : Hidden (¬ (kind = kind2 ∧ ex = ex2 ∧ name = name2 ∧ type = type2)) := hh
    clear hh
    go_enter Tryz.func16, Tryz.ntmps16
    go_wp2_with fail
    all_goals (first
      | (go_ret
         exact ⟨rfl, (Fr.alloc _ _ _).same (Fr.alloc _ _ _)⟩)
      | (exfalso
         apply (show ¬ _ from hhH)
         try simp only [Bool.and_eq_true, beq_iff_eq] at *
         simp [*]
         done))
set_option maxRecDepth 20000 in
set_option maxHeartbeats 4000000 in
theorem sameDs_any (l l2 : List De) (ao ao2 : Option Addr) (cap cap2 : Nat) (w : World) (e1 : DeL w ao cap l) (e2 : DeL w ao2 cap2 l2) (R : Bool) (hR : Hidden (decide (l = l2) = R)) :
    Calls Tryz.prog 15 #[.slice ao l.length cap, .slice ao2 l2.length cap2, .func (.func 16) #[] #[]] w fun e w' => e = .returned (.bool R) ∧ Fr (fun _ => False) w w' := by
  have n1 : l.length ≤ 9223372036854775807 := by have := e1.1; have := e1.2.1; unfold maxLen at this; omega
  have n2 : l2.length ≤ 9223372036854775807 := by have := e2.1; have := e2.2.1; unfold maxLen at this; omega
  have m1 := e1.1
  have m2 := e2.1
  by_cases hlen : l.length = l2.length
  · have hne : ((l.length : Int) != (l2.length : Int)) = false := by simp [hlen]
    have hlenH : Hidden (l.length = l2.length) := hlen
    clear hlen
    go_enter Tryz.func15, Tryz.ntmps15
    go_wp2_with fail
    go_loopg [17] l.length (fun g iv wr => ∃ (i : Nat), iv = ci (i : Int) ∧ i ≤ l.length ∧ R = decide (l.drop i = l2.drop i) ∧ g = l.length - i ∧ Fr (fun _ => False) w wr)
    case atStart => exact ⟨0, rfl, by omega, (show _ = R from hR).symm, rfl, Fr.refl _ _⟩
    case round =>
      obtain ⟨i, rfl, hi, hdk, hgk, hfr⟩ := hrel
      have hgkH : Hidden (gk = l.length - i) := hgk
      have hdkH : Hidden (R = decide (l.drop i = l2.drop i)) := hdk
      clear hgk hdk hR
      by_cases hil : i < l.length
      · have hil2 : i < l2.length := by have : l.length = l2.length := hlenH; omega
        obtain ⟨x, hx⟩ : ∃ x, l[i]? = some x := ⟨l[i], List.getElem?_eq_getElem hil⟩
        obtain ⟨y, hy⟩ : ∃ y, l2[i]? = some y := ⟨l2[i], List.getElem?_eq_getElem hil2⟩
        rcases e1.2.2 with h0 | ⟨b, off, rfl, hc⟩
        · rw [h0] at hil; simp at hil
        rcases e2.2.2 with h0 | ⟨b', off', rfl, hc'⟩
        · rw [h0] at hil2; simp at hil2
        obtain ⟨pv, ev, bv, hI, hcc⟩ := hc i x hx
        obtain ⟨pv', ev', bv', hI', hcc'⟩ := hc' i y hy
        have d0 := hfr.cellN (hcc 0 _ rfl)
        have d1 := hfr.cellN (hcc 1 _ rfl)
        have d2 := hfr.cellN (hcc 2 _ rfl)
        have d3 := hfr.cellN (hcc 3 _ rfl)
        have d4 := hfr.cellN (hcc 4 _ rfl)
        have d5 := hfr.cellN (hcc 5 _ rfl)
        have d6 := hfr.cellN (hcc 6 _ rfl)
        have fa := Fr.alloc (fun _ => False) wr (.cells #[ci x.kind, .bool x.ex, ct x.name, ci x.type, pv, ev, bv] 47)
        have ff := hfr.same fa
        have c0 := ff.cellN (hcc' 0 _ rfl)
        have c1 := ff.cellN (hcc' 1 _ rfl)
        have c2 := ff.cellN (hcc' 2 _ rfl)
        have c3 := ff.cellN (hcc' 3 _ rfl)
        have c4 := ff.cellN (hcc' 4 _ rfl)
        have c5 := ff.cellN (hcc' 5 _ rfl)
        have c6 := ff.cellN (hcc' 6 _ rfl)
        simp only [Nat.add_zero] at d0 c0
        have fb := Fr.alloc (fun _ => False) (wr.alloc (.cells #[ci x.kind, .bool x.ex, ct x.name, ci x.type, pv, ev, bv] 47)) (.cells #[ci y.kind, .bool y.ex, ct y.name, ci y.type, pv', ev', bv'] 47)
        obtain ⟨x0, x1, x2, x3, x4, x5, x6⟩ := ex_box (fb.heap (alloc_new wr (.cells #[ci x.kind, .bool x.ex, ct x.name, ci x.type, pv, ev, bv] 47)) (fun f => f))
        have f2 := ff.same fb
        have ke := sameD_any x y pv ev bv pv' ev' bv' _ (hI.keep f2) (hI'.keep f2)
        obtain ⟨_, _, _, _, _, _, rfl, rfl, rfl, _⟩ := hI
        obtain ⟨_, _, _, _, _, _, rfl, rfl, rfl, _⟩ := hI'
        have hdk2 : Hidden (R = (decide (x = y) && decide (l.drop (i + 1) = l2.drop (i + 1)))) := by
          show R = _
          rw [show R = _ from hdkH]
          exact drop_eq hx hy
        generalize decide (x = y) = sb at ke hdk2
        clear hdkH hx hy hc hc' hcc hcc'
        cases sb
        · have hres : Hidden (false = R) := (show R = false from hdk2).symm
          clear hdk2
          go_wp2_with fail
          go_at_call 16
          refine ke.mono ?_
          rintro e w3 ⟨rfl, f3⟩
          go_wp2_with fail
          go_ret
          exact ⟨ret_b hres, f2.same f3⟩
        · go_wp2_with fail
          go_at_call 16
          refine ke.mono ?_
          rintro e w3 ⟨rfl, f3⟩
          go_wp2_with fail
          go_roundg (l.length - (i + 1))
          case measure =>
            have : gk = l.length - i := hgkH
            omega
          case rel => exact ⟨i + 1, by go_num, by omega, hdk2, rfl, f2.same f3⟩
      · obtain rfl : i = l.length := by omega
        have hres : Hidden (true = R) := by
          show true = R
          rw [show R = _ from hdkH, List.drop_length, List.drop_of_length_le (by have : l.length = l2.length := hlenH; omega)]
          rfl
        clear hdkH
        go_wp2_with fail
        go_ret
        exact ⟨ret_b hres, hfr⟩
  · have hne : ((l.length : Int) != (l2.length : Int)) = true := by rw [bne_iff_ne]; omega
    have hres : Hidden (false = R) := by
      rw [← (show _ = R from hR)]
      show false = decide (l = l2)
      symm
      simp only [decide_eq_false_iff_not]
      intro hc
      exact hlen (by rw [hc])
    clear hlen
    go_enter Tryz.func15, Tryz.ntmps15
    go_wp2_with fail
    go_ret
    exact ⟨ret_b hres, Fr.refl _ _⟩
abbrev moB (m : Mo) (v1 v2 : Value) : Obj := .cells #[ct m.name, v1, v2] 25 (0, 0)
set_option maxRecDepth 20000 in
set_option maxHeartbeats 4000000 in
theorem same_any (m m2 : Mo) (v v2 : Value) (w : World) (hv : MoI w m v) (hv2 : MoI w m2 v2) :
    Calls Tryz.prog 6 #[v, v2] w fun e w' => e = .returned (.bool (decide (m = m2))) ∧ Fr (fun _ => False) w w' := by
  obtain ⟨ao, cap, aod, capd, rfl, s1, d1⟩ := hv
  obtain ⟨ao', cap', aod', capd', rfl, s2, d2⟩ := hv2
  obtain ⟨name, imports, decls⟩ := m
  obtain ⟨name2, imports2, decls2⟩ := m2
  simp only at s1 d1 s2 d2
  by_cases hn : name = name2
  · subst hn
    have f0 : Fr (fun _ => False) w ((w.alloc (moB ⟨name, imports, decls⟩ (.slice ao imports.length cap) (.slice aod decls.length capd))).alloc (moB ⟨name, imports2, decls2⟩ (.slice ao' imports2.length cap') (.slice aod' decls2.length capd'))) := (Fr.alloc _ _ _).same (Fr.alloc _ _ _)
    have x1 : Hidden (((w.alloc (moB ⟨name, imports, decls⟩ (.slice ao imports.length cap) (.slice aod decls.length capd))).alloc (moB ⟨name, imports2, decls2⟩ (.slice ao' imports2.length cap') (.slice aod' decls2.length capd'))).heap[w.heap.size]? = some (moB ⟨name, imports, decls⟩ (.slice ao imports.length cap) (.slice aod decls.length capd))) := (Fr.alloc (fun _ => False) _ _).heap (alloc_new _ _) (fun f => f)
    have x2 : Hidden (((w.alloc (moB ⟨name, imports, decls⟩ (.slice ao imports.length cap) (.slice aod decls.length capd))).alloc (moB ⟨name, imports2, decls2⟩ (.slice ao' imports2.length cap') (.slice aod' decls2.length capd'))).heap[w.heap.size + 1]? = some (moB ⟨name, imports2, decls2⟩ (.slice ao' imports2.length cap') (.slice aod' decls2.length capd'))) := (congrArg _ (by simp)).trans (alloc_new _ _)
    have kp := eqS_any imports imports2 ao ao' cap cap' _ (s1.keep f0) (s2.keep f0) _ rfl
    have kd := fun (w1 : World) (f : Fr (fun _ => False) w w1) => sameDs_any decls decls2 aod aod' capd capd' w1 (d1.keep f) (d2.keep f) _ rfl
    rw [show decide ((⟨name, imports, decls⟩ : Mo) = ⟨name, imports2, decls2⟩) = (decide (imports = imports2) && decide (decls = decls2)) by rw [Bool.eq_iff_iff]; simp]
    generalize decide (imports = imports2) = rp at kp
    generalize decide (decls = decls2) = rd at kd
    cases rp
    · go_enter Tryz.func6, Tryz.ntmps6
      go_wp2_with fail
      go_at_call 14
      refine kp.mono ?_
      rintro ee w1 ⟨rfl, f1⟩
      go_wp2_with fail
      go_ret
      exact ⟨rfl, f0.same f1⟩
    · go_enter Tryz.func6, Tryz.ntmps6
      go_wp2_with fail
      go_at_call 14
      refine kp.mono ?_
      rintro ee w1 ⟨rfl, f1⟩
      have c2 : w1.cell? ⟨w.heap.size, 2, none⟩ = some (.slice aod decls.length capd) := cell_of_row _ _ 2 _ _ _ (f1.heap x1 (fun f => f))
      have c5 : w1.cell? ⟨w.heap.size + 1, 2, none⟩ = some (.slice aod' decls2.length capd') := cell_of_row _ _ 2 _ _ _ (f1.heap x2 (fun f => f))
      go_wp2_with fail
      go_at_call 15
      refine (kd _ (f0.same f1)).mono ?_
      rintro ee w2 ⟨rfl, f2⟩
      go_wp2_with fail
      go_ret
      refine ⟨?_, (f0.same f1).same f2⟩
      cases rd <;> rfl
  · have t1 : (name == name2) = false := by rw [beq_eq_false_iff_ne]; exact hn
    rw [show decide ((⟨name, imports, decls⟩ : Mo) = ⟨name2, imports2, decls2⟩) = false by simp [hn]]
    go_enter Tryz.func6, Tryz.ntmps6
    go_wp2_with fail
    go_ret
    exact ⟨rfl, (Fr.alloc _ _ _).same (Fr.alloc _ _ _)⟩
end Go.Proofs.YtncachlopnpcjaaGreatDoor
