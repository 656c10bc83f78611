/- The document's Uses: modules. -/
import Derived.Test.YtfkccanjdlajlaaGreatDoorTrU5
namespace Go.Proofs.YtfkccanjdlajlaaGreatDoor.X
open Go.RowKit Te
set_option linter.unusedSimpArgs false
set_option linter.unusedVariables false

set_option maxRecDepth 20000 in
set_option maxHeartbeats 4000000 in
theorem uses_any (m : Mo) (v : Value) (w : World) (hv : MoI w m v) (hb : Fit [] (usM m.decls)) :
    Calls Tryz.prog 20 #[v] w fun e w' => ∃ v', e = .returned v' ∧ U.Tl w' v' (U.setS (usM m.decls)) ∧ Fr (fun _ => False) w w' := by
  obtain ⟨ao, cap, aod, capd, rfl, s1, hk⟩ := hv
  obtain ⟨name, imports, decls⟩ := m
  simp only at s1 hk hb ⊢
  have hlen : decls.length ≤ 9223372036854775807 := by have := hk.1; have := hk.2.1; unfold maxLen at this; omega
  have hcap := hk.1
  have hbx : Hidden ((w.alloc (.cells #[ct name, .slice ao imports.length cap, .slice aod decls.length capd] 25)).heap[w.heap.size]? = some (.cells #[ct name, .slice ao imports.length cap, .slice aod decls.length capd] 25 (0, 0))) := alloc_new _ _
  have f0 : Fr (fun _ => False) w (w.alloc (.cells #[ct name, .slice ao imports.length cap, .slice aod decls.length capd] 25)) := Fr.alloc _ _ _
  obtain ⟨R, hR⟩ : ∃ R, (usM decls).foldl U.putS [] = R := ⟨_, rfl⟩
  rw [show U.setS (usM decls) = R from (U.foldl_put_set _).symm.trans hR]
  go_enter Tryz.func20, Tryz.ntmps20
  go_wp2_with fail
  go_loopg [3, 4] decls.length (fun g mv iv wr => ∃ (i : Nat) (l1 : List Bs), iv = ci (i : Int) ∧ i ≤ decls.length ∧ U.Tl wr mv l1 ∧ (usM (decls.drop i)).foldl U.putS l1 = R ∧ Fit l1 (usM (decls.drop i)) ∧ g = decls.length - i ∧ Fr (fun _ => False) (w.alloc (.cells #[ct name, .slice ao imports.length cap, .slice aod decls.length capd] 25)) wr)
  case atStart => exact ⟨0, [], rfl, by omega, U.Tl.nil _, hR, hb, rfl, Fr.refl _ _⟩
  case round =>
    clear hR hb
    obtain ⟨i, l1, rfl, hi, hto, hdk, hfit, hgk, hfr⟩ := hrel
    have hgkH : Hidden (gk = decls.length - i) := hgk
    have hdkH : Hidden ((usM (decls.drop i)).foldl U.putS l1 = R) := hdk
    have hbw := hfr.heap hbx (fun f => f)
    have c2 : wr.cell? ⟨w.heap.size, 2, none⟩ = some (.slice aod decls.length capd) := cell_of_row _ _ 2 _ _ _ hbw
    clear hgk hdk
    by_cases hil : i < decls.length
    · obtain ⟨x, hx⟩ : ∃ x, decls[i]? = some x := ⟨decls[i], List.getElem?_eq_getElem hil⟩
      rcases hk.2.2 with h0 | ⟨b, off, rfl, hc⟩
      · rw [h0] at hil; simp at hil
      obtain ⟨pv, ev, bv, hI, hcc⟩ := hc i x hx
      have fw := f0.same hfr
      have d0 := fw.cellN (hcc 0 _ rfl)
      have d1 := fw.cellN (hcc 1 _ rfl)
      have d2 := fw.cellN (hcc 2 _ rfl)
      have d3 := fw.cellN (hcc 3 _ rfl)
      have d4 := fw.cellN (hcc 4 _ rfl)
      have d5 := fw.cellN (hcc 5 _ rfl)
      have d6 := fw.cellN (hcc 6 _ rfl)
      simp only [Nat.add_zero] at d0
      have hd2 : Hidden ((usM (decls.drop (i + 1))).foldl U.putS ((usS x.body).foldl U.putS ((usE x.e).foldl U.putS l1)) = R) := by
        have h0 : (usM (decls.drop i)).foldl U.putS l1 = R := hdkH
        rw [drop_at hx, usM_cons, List.foldl_append, List.foldl_append] at h0
        exact h0
      rw [drop_at hx, usM_cons, List.append_assoc] at hfit
      have t1 := fit_app hfit
      have t2 := fit_app t1.2
      obtain ⟨a1, p1, a2, p2, a3, p3, rfl, rfl, rfl, _, hE, hB⟩ := hI
      have kE := fun (w1 : World) (f : Fr (fun _ => False) wr w1) => usE_any x.e a2 p2 w1 _ l1 (hE.keep (fw.same f)) (hto.later (fr_u f)) t1.1
      clear hdkH hx hc hcc hfit
      go_wp2_with fail
      go_region_held3 (fun w' => w'.cell? ⟨b, off + i * 7, none⟩ = some (ci x.kind) ∧ w'.cell? ⟨b, off + i * 7 + 1, none⟩ = some (.bool x.ex) ∧ w'.cell? ⟨b, off + i * 7 + 2, none⟩ = some (ct x.name) ∧ w'.cell? ⟨b, off + i * 7 + 3, none⟩ = some (ci x.type) ∧ w'.cell? ⟨b, off + i * 7 + 4, none⟩ = some (.slice a1 x.params.length p1) ∧ w'.cell? ⟨b, off + i * 7 + 5, none⟩ = some (.slice a2 x.e.len p2) ∧ w'.cell? ⟨b, off + i * 7 + 6, none⟩ = some (.slice a3 x.body.len p3) ∧ w'.cell? ⟨w.heap.size, 2, none⟩ = some (.slice (some ⟨b, off, none⟩) decls.length capd)) (go_keep) (first
        | (go_at_call 52; refine (kE _ (Fr.drew _ _)).mono ?_; rintro e w3 ⟨v3, rfl, to3, f3⟩; have fr3 := (Fr.drew (fun _ => False) wr).same f3; have x0 := fr3.cellN d0; have x1 := fr3.cellN d1; have x2 := fr3.cellN d2; have x3 := fr3.cellN d3; have x4 := fr3.cellN d4; have x5 := fr3.cellN d5; have x6 := fr3.cellN d6; have x7 := fr3.cellN c2; have kB1 := usS_any x.body a3 p3 w3 v3 _ (hB.keep (fw.same fr3)) to3 t2.1)
        | (go_at_call 51; refine kB1.mono ?_; rintro e w4 ⟨v4, rfl, to4, f4⟩; have fr4 := fr3.same f4; have y0 := fr4.cellN d0; have y1 := fr4.cellN d1; have y2 := fr4.cellN d2; have y3 := fr4.cellN d3; have y4 := fr4.cellN d4; have y5 := fr4.cellN d5; have y6 := fr4.cellN d6; have y7 := fr4.cellN c2))
      all_goals
        go_wp2_with fail
        go_roundg (decls.length - (i + 1))
        case measure =>
          have : gk = decls.length - i := hgkH
          omega
        case rel => exact ⟨i + 1, _, by go_num, by omega, to4, hd2, t2.2, rfl, hfr.same fr4⟩
    · obtain rfl : i = decls.length := by omega
      obtain rfl : l1 = R := by rw [← (show _ = R from hdkH), List.drop_length, usM_nil]; rfl
      clear hdkH
      go_wp2_with fail
      go_ret
      exact ⟨_, rfl, hto, f0.same hfr⟩
end Go.Proofs.YtfkccanjdlajlaaGreatDoor.X
