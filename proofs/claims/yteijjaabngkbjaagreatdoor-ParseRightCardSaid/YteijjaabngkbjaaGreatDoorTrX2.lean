/- The document's SameStmts. -/
import Derived.Test.YteijjaabngkbjaaGreatDoorTrX1
import Derived.Test.YteijjaabngkbjaaGreatDoorTrQ2
import Derived.Test.YteijjaabngkbjaaGreatDoorTrG
namespace Go.Proofs.YteijjaabngkbjaaGreatDoor.X
open Go.RowKit Te
set_option linter.unusedSimpArgs false
set_option linter.unusedVariables false

def SameB (k : Sts) : Prop := ∀ (k2 : Sts) (ao ao2 : Option Addr) (cap cap2 : Nat) (w : World), StL w ao cap k → StL w ao2 cap2 k2 →
  Calls Tryz.prog 72 #[.slice ao k.len cap, .slice ao2 k2.len cap2] w fun e w' => e = .returned (.bool (decide (k = k2))) ∧ Fr (fun _ => False) w w'
set_option maxRecDepth 20000 in
set_option maxHeartbeats 8000000 in
theorem sameB_step (k : Sts) (ih : ∀ k' : Sts, k'.size < k.size → SameB k') : SameB k := by
  intro k2 ao ao2 cap cap2 w e1 e2
  have r1 := e1.rest
  have r2 := e2.rest
  have l1 : k.len ≤ 9223372036854775807 := by have := e1.1; have := e1.2.1; unfold maxLen at this; omega
  have l2 : k2.len ≤ 9223372036854775807 := by have := e2.1; have := e2.2.1; unfold maxLen at this; omega
  have m1 := e1.1
  have m2 := e2.1
  obtain ⟨R, hR⟩ : ∃ R, decide (k = k2) = R := ⟨_, rfl⟩
  rw [hR]
  have hRH : Hidden (decide (k = k2) = R) := hR
  clear hR
  by_cases hlen : k.len = k2.len
  · have hne : ((k.len : Int) != (k2.len : Int)) = false := by simp [hlen]
    have hlenH : Hidden (k.len = k2.len) := hlen
    clear hlen
    go_enter Tryz.func72, Tryz.ntmps72
    go_wp2_with fail
    go_loopg [5] k.len (fun g iv wr => ∃ (i : Nat) (r q : Sts), iv = ci (i : Int) ∧ i + r.len = k.len ∧ i + q.len = k2.len ∧ r.size ≤ k.size ∧ StR w ao i r ∧ StR w ao2 i q ∧ R = decide (r = q) ∧ g = r.len ∧ Fr (fun _ => False) w wr)
    case atStart => exact ⟨0, k, k2, rfl, by omega, by omega, Nat.le_refl _, r1, r2, (show _ = R from hRH).symm, rfl, Fr.refl _ _⟩
    case round =>
      obtain ⟨i, r, q, rfl, hl1, hl2, hsize, hrow, hrow2, hdk, hgk, hfr⟩ := hrel
      have hgkH : Hidden (gk = r.len) := hgk
      have hdkH : Hidden (R = decide (r = q)) := hdk
      have hl1H : Hidden (i + r.len = k.len) := hl1
      have hl2H : Hidden (i + q.len = k2.len) := hl2
      clear hgk hdk hl1 hl2 r1 r2
      cases r with
      | nil =>
        have hi : i = k.len := hl1H
        have hq : q.len = 0 := by have : i + q.len = k2.len := hl2H; have : k.len = k2.len := hlenH; omega
        have hq0 : q = .nil := by
          cases q with
          | nil => rfl
          | cons _ _ _ _ _ => simp [Sts.len] at hq
        have hres : Hidden (true = R) := by rw [show R = _ from hdkH, hq0]; rfl
        clear hq hq0 hrow2 hrow
        subst hi
        go_wp2_with fail
        go_ret
        exact ⟨ret_b hres, hfr⟩
      | cons h' e' b' l' r' =>
        cases q with
        | nil =>
          exfalso
          have a1 : i + (r'.len + 1) = k.len := hl1H
          have a2 : i + 0 = k2.len := hl2H
          have a3 : k.len = k2.len := hlenH
          omega
        | cons h'' e'' b'' l'' r'' =>
          have hil : i < k.len := by have : i + (r'.len + 1) = k.len := hl1H; omega
          have hil2 : i < k2.len := by have : i + (r''.len + 1) = k2.len := hl2H; omega
          obtain ⟨b, off, a1, p1, a2, p2, a3, p3, rfl, hL1, hL2, hL3, hn1, d0, d1, d2, d3, d4⟩ := hrow.next
          obtain ⟨bb, off', a1', p1', a2', p2', a3', p3', rfl, hM1, hM2, hM3, hn2, c0, c1, c2, c3, c4⟩ := hrow2.next
          have d0 := hfr.cellN d0
          have c0 := hfr.cellN c0
          have d1 := hfr.cellN d1
          have c1 := hfr.cellN c1
          have d2 := hfr.cellN d2
          have c2 := hfr.cellN c2
          have d3 := hfr.cellN d3
          have c3 := hfr.cellN c3
          have d4 := hfr.cellN d4
          have c4 := hfr.cellN c4
          simp only [Sts.size] at hsize
          have ke := fun (w1 : World) (f : Fr (fun _ => False) w w1) => sameL_any e' e'' a1 a1' p1 p1' w1 (hL1.keep f) (hM1.keep f)
          have kb := fun (w1 : World) (f : Fr (fun _ => False) w w1) => ih b' (by omega) b'' a2 a2' p2 p2' w1 (hL2.keep f) (hM2.keep f)
          have kl := fun (w1 : World) (f : Fr (fun _ => False) w w1) => ih l' (by omega) l'' a3 a3' p3 p3' w1 (hL3.keep f) (hM3.keep f)
          obtain ⟨kind, name⟩ := h'
          obtain ⟨kind2, name2⟩ := h''
          go_wp2_with fail
          refine wp_region_grow (by kernel_rfl) (by kernel_rfl) ?_
          by_cases hk : kind = kind2
          · subst hk
            by_cases hn : name = name2
            · subst hn
              have hdk2 : Hidden (R = (decide (e' = e'') && (decide (b' = b'') && (decide (l' = l'') && decide (r' = r''))))) := by
                show R = _
                rw [show R = _ from hdkH, Bool.eq_iff_iff]
                simp [and_assoc]
              generalize decide (e' = e'') = re at ke hdk2
              generalize decide (b' = b'') = rb at kb hdk2
              generalize decide (l' = l'') = rl at kl hdk2
              clear hdkH
              cases re
              · have hres : Hidden (false = R) := (show R = false from hdk2).symm
                clear hdk2 kb kl
                (repeat (first | (refine grow_op (v := ?_) ?_ ?_ ?_; rotate_left; (focus (first | exact wanted_none rfl | (go_simp; done))); (focus (intro w' hw'; have d0 := hw'.cellN d0; have d1 := hw'.cellN d1; have d2 := hw'.cellN d2; have d3 := hw'.cellN d3; have d4 := hw'.cellN d4; have c0 := hw'.cellN c0; have c1 := hw'.cellN c1; have c2 := hw'.cellN c2; have c3 := hw'.cellN c3; have c4 := hw'.cellN c4; (go_simp; first | with_reducible rfl | (go_at_call 71; refine calls_grow hw' ?_; first | (have q := ke _ (hfr.same hw'); with_reducible exact q)) | (go_at_call 72; refine calls_grow hw' ?_; first | (have q := kb _ (hfr.same hw'); with_reducible exact q) | (have q := kl _ (hfr.same hw'); with_reducible exact q))))); (intro a' ha; simp only [Act.put, List.setIfInBounds_toArray, List.set_cons_zero, List.set_cons_succ] at ha; subst ha)) | (refine grow_no ?_ ?_; (focus (go_simp; done)); (intro a' ha; simp only [Act.put, List.setIfInBounds_toArray, List.set_cons_zero, List.set_cons_succ] at ha; subst ha)))); refine grow_nil ?_; intro w1 k1
                all_goals
                  go_wp2_with fail
                  go_ret
                  exact ⟨ret_b hres, hfr.same k1⟩
              · cases rb
                · have hres : Hidden (false = R) := (show R = false from hdk2).symm
                  clear hdk2 kl
                  (repeat (first | (refine grow_op (v := ?_) ?_ ?_ ?_; rotate_left; (focus (first | exact wanted_none rfl | (go_simp; done))); (focus (intro w' hw'; have d0 := hw'.cellN d0; have d1 := hw'.cellN d1; have d2 := hw'.cellN d2; have d3 := hw'.cellN d3; have d4 := hw'.cellN d4; have c0 := hw'.cellN c0; have c1 := hw'.cellN c1; have c2 := hw'.cellN c2; have c3 := hw'.cellN c3; have c4 := hw'.cellN c4; (go_simp; first | with_reducible rfl | (go_at_call 71; refine calls_grow hw' ?_; first | (have q := ke _ (hfr.same hw'); with_reducible exact q)) | (go_at_call 72; refine calls_grow hw' ?_; first | (have q := kb _ (hfr.same hw'); with_reducible exact q) | (have q := kl _ (hfr.same hw'); with_reducible exact q))))); (intro a' ha; simp only [Act.put, List.setIfInBounds_toArray, List.set_cons_zero, List.set_cons_succ] at ha; subst ha)) | (refine grow_no ?_ ?_; (focus (go_simp; done)); (intro a' ha; simp only [Act.put, List.setIfInBounds_toArray, List.set_cons_zero, List.set_cons_succ] at ha; subst ha)))); refine grow_nil ?_; intro w1 k1
                  all_goals
                    go_wp2_with fail
                    go_ret
                    exact ⟨ret_b hres, hfr.same k1⟩
                · cases rl
                  · have hres : Hidden (false = R) := (show R = false from hdk2).symm
                    clear hdk2
                    (repeat (first | (refine grow_op (v := ?_) ?_ ?_ ?_; rotate_left; (focus (first | exact wanted_none rfl | (go_simp; done))); (focus (intro w' hw'; have d0 := hw'.cellN d0; have d1 := hw'.cellN d1; have d2 := hw'.cellN d2; have d3 := hw'.cellN d3; have d4 := hw'.cellN d4; have c0 := hw'.cellN c0; have c1 := hw'.cellN c1; have c2 := hw'.cellN c2; have c3 := hw'.cellN c3; have c4 := hw'.cellN c4; (go_simp; first | with_reducible rfl | (go_at_call 71; refine calls_grow hw' ?_; first | (have q := ke _ (hfr.same hw'); with_reducible exact q)) | (go_at_call 72; refine calls_grow hw' ?_; first | (have q := kb _ (hfr.same hw'); with_reducible exact q) | (have q := kl _ (hfr.same hw'); with_reducible exact q))))); (intro a' ha; simp only [Act.put, List.setIfInBounds_toArray, List.set_cons_zero, List.set_cons_succ] at ha; subst ha)) | (refine grow_no ?_ ?_; (focus (go_simp; done)); (intro a' ha; simp only [Act.put, List.setIfInBounds_toArray, List.set_cons_zero, List.set_cons_succ] at ha; subst ha)))); refine grow_nil ?_; intro w1 k1
                    all_goals
                      go_wp2_with fail
                      go_ret
                      exact ⟨ret_b hres, hfr.same k1⟩
                  · have hdk3 : Hidden (R = decide (r' = r'')) := hdk2
                    clear hdk2
                    (repeat (first | (refine grow_op (v := ?_) ?_ ?_ ?_; rotate_left; (focus (first | exact wanted_none rfl | (go_simp; done))); (focus (intro w' hw'; have d0 := hw'.cellN d0; have d1 := hw'.cellN d1; have d2 := hw'.cellN d2; have d3 := hw'.cellN d3; have d4 := hw'.cellN d4; have c0 := hw'.cellN c0; have c1 := hw'.cellN c1; have c2 := hw'.cellN c2; have c3 := hw'.cellN c3; have c4 := hw'.cellN c4; (go_simp; first | with_reducible rfl | (go_at_call 71; refine calls_grow hw' ?_; first | (have q := ke _ (hfr.same hw'); with_reducible exact q)) | (go_at_call 72; refine calls_grow hw' ?_; first | (have q := kb _ (hfr.same hw'); with_reducible exact q) | (have q := kl _ (hfr.same hw'); with_reducible exact q))))); (intro a' ha; simp only [Act.put, List.setIfInBounds_toArray, List.set_cons_zero, List.set_cons_succ] at ha; subst ha)) | (refine grow_no ?_ ?_; (focus (go_simp; done)); (intro a' ha; simp only [Act.put, List.setIfInBounds_toArray, List.set_cons_zero, List.set_cons_succ] at ha; subst ha)))); refine grow_nil ?_; intro w1 k1
                    all_goals
                      go_wp2_with fail
                      go_roundg r'.len
                      case measure =>
                        have : gk = r'.len + 1 := hgkH
                        omega
                      case rel =>
                        refine ⟨i + 1, r', r'', by go_num, ?_, ?_, by omega, hn1, hn2, hdk3, rfl, hfr.same k1⟩
                        · have : i + (r'.len + 1) = k.len := hl1H
                          omega
                        · have : i + (r''.len + 1) = k2.len := hl2H
                          omega
            · have hres : Hidden (false = R) := by
                show false = R
                rw [show R = _ from hdkH]
                symm
                simp only [decide_eq_false_iff_not]
                intro hc
                cases hc
                exact hn rfl
              have t1 : (name == name2) = false := by rw [beq_eq_false_iff_ne]; exact hn
              have t2 : (name != name2) = true := by rw [bne, t1]; rfl
              clear hdkH ke kb kl hn
              (repeat (first | (refine grow_op (v := ?_) ?_ ?_ ?_; rotate_left; (focus (first | exact wanted_none rfl | (go_simp; done))); (focus (intro w' hw'; have d0 := hw'.cellN d0; have d1 := hw'.cellN d1; have d2 := hw'.cellN d2; have d3 := hw'.cellN d3; have d4 := hw'.cellN d4; have c0 := hw'.cellN c0; have c1 := hw'.cellN c1; have c2 := hw'.cellN c2; have c3 := hw'.cellN c3; have c4 := hw'.cellN c4; (go_simp; with_reducible rfl))); (intro a' ha; simp only [Act.put, List.setIfInBounds_toArray, List.set_cons_zero, List.set_cons_succ] at ha; subst ha)) | (refine grow_no ?_ ?_; (focus (go_simp; done)); (intro a' ha; simp only [Act.put, List.setIfInBounds_toArray, List.set_cons_zero, List.set_cons_succ] at ha; subst ha)))); refine grow_nil ?_; intro w1 k1
              all_goals
                go_wp2_with fail
                go_ret
                exact ⟨ret_b hres, hfr.same k1⟩
          · have hres : Hidden (false = R) := by
              show false = R
              rw [show R = _ from hdkH]
              symm
              simp only [decide_eq_false_iff_not]
              intro hc
              cases hc
              exact hk rfl
            have t1 : (kind == kind2) = false := by rw [beq_eq_false_iff_ne]; exact hk
            have t2 : (kind != kind2) = true := by rw [bne, t1]; rfl
            clear hdkH ke kb kl hk
            (repeat (first | (refine grow_op (v := ?_) ?_ ?_ ?_; rotate_left; (focus (first | exact wanted_none rfl | (go_simp; done))); (focus (intro w' hw'; have d0 := hw'.cellN d0; have d1 := hw'.cellN d1; have d2 := hw'.cellN d2; have d3 := hw'.cellN d3; have d4 := hw'.cellN d4; have c0 := hw'.cellN c0; have c1 := hw'.cellN c1; have c2 := hw'.cellN c2; have c3 := hw'.cellN c3; have c4 := hw'.cellN c4; (go_simp; with_reducible rfl))); (intro a' ha; simp only [Act.put, List.setIfInBounds_toArray, List.set_cons_zero, List.set_cons_succ] at ha; subst ha)) | (refine grow_no ?_ ?_; (focus (go_simp; done)); (intro a' ha; simp only [Act.put, List.setIfInBounds_toArray, List.set_cons_zero, List.set_cons_succ] at ha; subst ha)))); refine grow_nil ?_; intro w1 k1
            all_goals
              go_wp2_with fail
              go_ret
              exact ⟨ret_b hres, hfr.same k1⟩
  · have hne : ((k.len : Int) != (k2.len : Int)) = true := by rw [bne_iff_ne]; omega
    have hres : Hidden (false = R) := by
      rw [← (show _ = R from hRH)]
      show false = decide (k = k2)
      symm
      simp only [decide_eq_false_iff_not]
      intro hc
      exact hlen (by rw [hc])
    clear hlen
    go_enter Tryz.func72, Tryz.ntmps72
    go_wp2_with fail
    go_ret
    exact ⟨ret_b hres, Fr.refl _ _⟩
theorem sameB_any (k : Sts) : SameB k := by
  have : ∀ (n : Nat) (k : Sts), k.size < n → SameB k := by
    intro n
    induction n with
    | zero => intro k hk; omega
    | succ n ih => intro k hk; exact sameB_step k (fun k' hk' => ih k' (by omega))
  exact this (k.size + 1) k (by omega)
end Go.Proofs.YteijjaabngkbjaaGreatDoor.X
