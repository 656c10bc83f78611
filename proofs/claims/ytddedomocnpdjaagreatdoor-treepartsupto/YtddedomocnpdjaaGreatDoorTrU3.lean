/- The program's Uses: modules. -/
import Derived.Test.YtddedomocnpdjaaGreatDoorTrU2
namespace Go.Proofs.YtddedomocnpdjaaGreatDoor
open Go.RowKit Te
set_option linter.unusedSimpArgs false
set_option linter.unusedVariables false

theorem usM_cons (d : De) (l : List De) : usM (d :: l) = usE d.e ++ usS d.body ++ usM l := by simp [usM]
theorem usM_nil : usM [] = [] := rfl
set_option maxRecDepth 20000 in
set_option maxHeartbeats 4000000 in
theorem uses_any (m : Mo) (v : Value) (w : World) (hv : MoI w m v) (hb : (usM m.decls).length * 16 ≤ 140737488355328) :
    Calls Tryz.prog 8 #[v] w fun e w' => ∃ v', e = .returned v' ∧ U.Tl w' v' (U.setS (usM m.decls)) ∧ Fr (fun _ => False) w w' := by
  obtain ⟨ao, cap, aod, capd, rfl, s1, hk⟩ := hv
  obtain ⟨name, imports, decls⟩ := m
  simp only at s1 hk hb ⊢
  have hlen : decls.length ≤ 9223372036854775807 := by have := hk.1; have := hk.2.1; unfold maxLen at this; omega
  have hcap := hk.1
  have f0 : Fr (fun _ => False) w (w.alloc (.cells #[ct name, .slice ao imports.length cap, .slice aod decls.length capd] 25)) := Fr.alloc _ _ _
  obtain ⟨R, hR⟩ : ∃ R, usM decls = R := ⟨_, rfl⟩
  rw [hR] at hb ⊢
  go_enter Tryz.func8, Tryz.ntmps8
  go_wp2_with fail
  go_loopg [3, 9] decls.length (fun g mv iv wr => ∃ (i : Nat) (l1 : List Bs), iv = ci (i : Int) ∧ i ≤ decls.length ∧ U.To wr w.heap.size mv l1 ∧ l1 ++ usM (decls.drop i) = R ∧ g = decls.length - i ∧ Fr (fun _ => False) w wr)
  case atStart => exact ⟨0, [], rfl, by omega, U.To.nil _ _, hR, rfl, f0⟩
  case round =>
    clear hR
    obtain ⟨i, l1, rfl, hi, hto, hdk, hgk, hfr0⟩ := hrel
    have hgkH : Hidden (gk = decls.length - i) := hgk
    have hdkH : Hidden (l1 ++ usM (decls.drop i) = R) := hdk
    clear hgk hdk
    by_cases hil : i < decls.length
    · obtain ⟨x, hx⟩ : ∃ x, decls[i]? = some x := ⟨decls[i], List.getElem?_eq_getElem hil⟩
      rcases hk.2.2 with h0 | ⟨b, off, rfl, hc⟩
      · rw [h0] at hil; simp at hil
      obtain ⟨pv, ev, bv, hI, hcc⟩ := hc i x hx
      have d0 := hfr0.cellN (hcc 0 _ rfl)
      have d1 := hfr0.cellN (hcc 1 _ rfl)
      have d2 := hfr0.cellN (hcc 2 _ rfl)
      have d3 := hfr0.cellN (hcc 3 _ rfl)
      have d4 := hfr0.cellN (hcc 4 _ rfl)
      have d5 := hfr0.cellN (hcc 5 _ rfl)
      have d6 := hfr0.cellN (hcc 6 _ rfl)
      simp only [Nat.add_zero] at d0
      have hd2 : Hidden ((l1 ++ usE x.e) ++ usS x.body ++ usM (decls.drop (i + 1)) = R) := by
        have h0 : l1 ++ usM (decls.drop i) = R := hdkH
        rw [drop_at hx, usM_cons] at h0
        rw [← h0]
        simp [Hidden]
      have hl2 : l1.length + (usE x.e).length + (usS x.body).length ≤ R.length := by
        have h0 := congrArg List.length (show _ = R from hd2)
        simp only [List.length_append] at h0
        omega
      obtain ⟨a1, p1, a2, p2, a3, p3, rfl, rfl, rfl, _, hE, hB⟩ := hI
      have hbx : Hidden ((wr.alloc (.cells #[ci x.kind, .bool x.ex, ct x.name, ci x.type, .slice a1 x.params.length p1, .slice a2 x.e.len p2, .slice a3 x.body.len p3] 30)).heap[wr.heap.size]? = some (.cells #[ci x.kind, .bool x.ex, ct x.name, ci x.type, .slice a1 x.params.length p1, .slice a2 x.e.len p2, .slice a3 x.body.len p3] 30 (0, 0))) := alloc_new _ _
      have f1 : Fr (fun _ => False) wr (wr.alloc (.cells #[ci x.kind, .bool x.ex, ct x.name, ci x.type, .slice a1 x.params.length p1, .slice a2 x.e.len p2, .slice a3 x.body.len p3] 30)) := Fr.alloc _ _ _
      have hown := hto.own
      have hto1 := hto.later (fr_u f1)
      have hfr01 := hfr0.same f1
      have o1 : Off wr.heap.size _ := fun b hb2 => by have := (hown b hb2).2; omega
      have s1 : wr.heap.size < (wr.alloc (.cells #[ci x.kind, .bool x.ex, ct x.name, ci x.type, .slice a1 x.params.length p1, .slice a2 x.e.len p2, .slice a3 x.body.len p3] 30)).heap.size := by simp
      have kc := addE_any x.e a2 p2 w _ _ l1 hE hfr01 hto1 (by omega)
      clear hdkH hx hc hcc
      obtain ⟨c0, c1, c2, c3, c4, c5, c6⟩ := ex_box hbx
      go_wp2_with fail
      go_at_call 17
      refine kc.mono ?_
      rintro e w3 ⟨v3, rfl, to3, f3, n3⟩
      have hbx3 := off_heap o1 f3 hbx
      have fA := hfr01.over f3 (fun b hb2 => (hown b hb2).1)
      have kc := addS_any x.body a3 p3 w w3 v3 (l1 ++ usE x.e) hB fA to3 (by simp only [List.length_append]; omega)
      clear c0 c1 c2 c3 c4 c5 c6
      obtain ⟨c0, c1, c2, c3, c4, c5, c6⟩ := ex_box hbx3
      go_wp2_with fail
      go_at_call 18
      refine kc.mono ?_
      rintro e w4 ⟨v4, rfl, to4, f4, n4⟩
      go_wp2_with fail
      go_roundg (decls.length - (i + 1))
      case measure =>
        have : gk = decls.length - i := hgkH
        omega
      case rel => exact ⟨i + 1, _, by go_num, by omega, to4, hd2, rfl, fA.over f4 (fun b hb2 => (to3.own b hb2).1)⟩
    · obtain rfl : i = decls.length := by omega
      obtain rfl : l1 = R := by rw [← (show _ = R from hdkH), List.drop_length, usM_nil, List.append_nil]
      clear hdkH
      have ks := U.set_any _ l1 _ hto.tn.tl hb
      go_wp2_with fail
      go_at_call 19
      refine ks.mono ?_
      rintro e w3 ⟨v3, rfl, to3, f3⟩
      go_wp2_with fail
      go_ret
      exact ⟨_, rfl, to3.tl, hfr0.same (u_fr f3)⟩
end Go.Proofs.YtddedomocnpdjaaGreatDoor
