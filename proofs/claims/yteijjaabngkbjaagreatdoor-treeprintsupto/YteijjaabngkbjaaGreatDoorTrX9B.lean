/- TrX5 TrX9 -/
import Derived.Test.YteijjaabngkbjaaGreatDoorTrX4B
import Derived.Test.YteijjaabngkbjaaGreatDoorTrX8
namespace Go.Proofs.YteijjaabngkbjaaGreatDoor.X
open Go.RowKit Te
set_option linter.unusedSimpArgs false
set_option linter.unusedVariables false
theorem dL_max : ∀ (k : Exs) (a b c : Int), dL k a (max b c) = max b (dL k a c)
  | .nil, _, _, _ => rfl
  | .cons h k r, a, b, c => by
    unfold dL
    rw [Int.max_assoc]
    exact dL_max r a b _
theorem dL_acc (k : Exs) (a acc : Int) (h : a ≤ acc) : dL k a acc = max acc (dL k a a) := by
  rw [← dL_max, Int.max_eq_left h]
theorem le_dL : ∀ (k : Exs) (a acc : Int), acc ≤ dL k a acc
  | .nil, _, _ => Int.le_refl _
  | .cons h k r, a, acc => by
    unfold dL
    exact Int.le_trans (Int.le_max_left _ _) (le_dL r a _)
def BlockC (k : Sts) : Prop := ∀ (a R : Int) (ao : Option Addr) (cap : Nat) (w : World), Hidden (dS k a a = R) → StL w ao cap k →
  Calls Tryz.prog 133 #[.slice ao k.len cap, ci a] w fun e w' => e = .returned (ci R) ∧ Fr (fun _ => False) w w'
set_option maxRecDepth 20000 in
set_option maxHeartbeats 4000000 in
theorem block_step (k : Sts) (ih : ∀ k' : Sts, k'.size < k.size → BlockC k') : BlockC k := by
  intro a R ao cap w hR hk
  have hrest := hk.rest
  obtain ⟨hcap, hmax, _⟩ := hk
  have hlen : k.len ≤ 9223372036854775807 := by unfold maxLen at hmax; omega
  go_enter Tryz.func133, Tryz.ntmps133
  go_wp2_with fail
  go_loopg [5, 6] k.len (fun g lv iv wr => ∃ (i : Nat) (r : Sts) (acc : Int), lv = ci acc ∧ iv = ci (i : Int) ∧ i + r.len = k.len ∧ r.size ≤ k.size ∧ a ≤ acc ∧ StR w ao i r ∧ dS r a acc = R ∧ g = r.len ∧ Fr (fun _ => False) w wr)
  case atStart => exact ⟨0, k, a, rfl, rfl, by omega, Nat.le_refl _, Int.le_refl _, hrest, hR, rfl, Fr.refl _ _⟩
  case round =>
    obtain ⟨i, r, acc, rfl, rfl, hlen2, hsize, hacc, hrow, hdk, hgk, hfr⟩ := hrel
    have hgkH : Hidden (gk = r.len) := hgk
    have hdkH : Hidden (dS r a acc = R) := hdk
    have hlenH : Hidden (i + r.len = k.len) := hlen2
    clear hgk hdk hlen2 hrest
    cases r with
    | nil =>
      have hi : i = k.len := hlenH
      subst hi
      have : acc = R := hdkH
      subst this
      go_wp2_with fail
      go_ret
      exact ⟨rfl, hfr⟩
    | cons h' e' b' l' r' =>
      have hil : i < k.len := by have : i + (r'.len + 1) = k.len := hlenH; omega
      obtain ⟨b, off, ao1, cap1, ao2, cap2, ao3, cap3, rfl, hL1, hL2, hL3, hrow2, d0, d1, d2, d3, d4⟩ := hrow.next
      have d0 := hfr.cellN d0
      have d1 := hfr.cellN d1
      have d2 := hfr.cellN d2
      have d3 := hfr.cellN d3
      have d4 := hfr.cellN d4
      have hbx : Hidden ((wr.alloc (.cells #[ci h'.kind, ct h'.name, .slice ao1 e'.len cap1, .slice ao2 b'.len cap2, .slice ao3 l'.len cap3] 91)).heap[wr.heap.size]? = some (.cells #[ci h'.kind, ct h'.name, .slice ao1 e'.len cap1, .slice ao2 b'.len cap2, .slice ao3 l'.len cap3] 91 (0, 0))) := alloc_new _ _
      have hfa : Fr (fun _ => False) w (wr.alloc (.cells #[ci h'.kind, ct h'.name, .slice ao1 e'.len cap1, .slice ao2 b'.len cap2, .slice ao3 l'.len cap3] 91)) := hfr.same (Fr.alloc _ _ _)
      generalize hb0 : wr.alloc (.cells #[ci h'.kind, ct h'.name, .slice ao1 e'.len cap1, .slice ao2 b'.len cap2, .slice ao3 l'.len cap3] 91) = W0 at hbx hfa
      have hb0H : Hidden (wr.alloc (.cells #[ci h'.kind, ct h'.name, .slice ao1 e'.len cap1, .slice ao2 b'.len cap2, .slice ao3 l'.len cap3] 91) = W0) := hb0
      clear hb0
      simp only [Sts.size] at hsize
      have l1 : e'.len ≤ 9223372036854775807 := by have := hL1.1; have := hL1.2.1; unfold maxLen at this; omega
      have l2 : b'.len ≤ 9223372036854775807 := by have := hL2.1; have := hL2.2.1; unfold maxLen at this; omega
      have l3 : l'.len ≤ 9223372036854775807 := by have := hL3.1; have := hL3.2.1; unfold maxLen at this; omega
      have hkb := ih b' (by omega)
      have hkl := ih l' (by omega)
      unfold BlockC at hkb hkl
      have he := hL1.rest
      obtain ⟨acc1, hacc1⟩ : ∃ acc1, dL e' a acc = acc1 := ⟨_, rfl⟩
      have hacc1H : Hidden (dL e' a acc = acc1) := hacc1
      have hle1 : acc ≤ acc1 := by rw [← hacc1]; exact le_dL _ _ _
      have tb : (hasBody h'.kind = true ∨ 0 < b'.len) ∨ (hasBody h'.kind = false ∧ ¬ 0 < b'.len) := by
        cases hasBody h'.kind
        · by_cases hz : 0 < b'.len
          · exact Or.inl (Or.inr hz)
          · exact Or.inr ⟨rfl, hz⟩
        · exact Or.inl (Or.inl rfl)
      obtain ⟨acc2, hacc2, hle2⟩ : ∃ acc2, Hidden (acc2 = if hasBody h'.kind || decide (0 < b'.len) then max acc1 (dS b' (wrap64 (a + 1)) (wrap64 (a + 1))) else acc1) ∧ acc1 ≤ acc2 := by
        refine ⟨_, rfl, ?_⟩
        split
        · exact Int.le_max_left _ _
        · exact Int.le_refl _
      obtain ⟨acc3, hacc3, hle3⟩ : ∃ acc3, Hidden (acc3 = if h'.kind = 8 ∨ 0 < l'.len then max acc2 (dS l' (wrap64 (a + 1)) (wrap64 (a + 1))) else acc2) ∧ acc2 ≤ acc3 := by
        refine ⟨_, rfl, ?_⟩
        split
        · exact Int.le_max_left _ _
        · exact Int.le_refl _
      have hdk2 : Hidden (dS r' a acc3 = R) := by
        have h0 : dS (.cons h' e' b' l' r') a acc = R := hdkH
        rw [dS_cons] at h0
        rw [← h0]
        have e1 : acc1 = max acc (dL e' a a) := by rw [← hacc1, dL_acc _ _ _ hacc]
        have e2 := (show acc2 = _ from hacc2)
        have e3 := (show acc3 = _ from hacc3)
        show dS r' a acc3 = dS r' a _
        congr 1
        rw [e3, e2, e1]
        unfold dSt
        by_cases c1 : (hasBody h'.kind || decide (0 < b'.len)) = true
        · by_cases c2 : h'.kind = 8 ∨ 0 < l'.len
          · simp only [if_pos c1, if_pos c2]; omega
          · simp only [if_pos c1, if_neg c2]; omega
        · by_cases c2 : h'.kind = 8 ∨ 0 < l'.len
          · simp only [if_neg c1, if_pos c2]; omega
          · simp only [if_neg c1, if_neg c2]
      clear hdkH hacc1
      go_wp2_with fail
      rw [show _ = W0 from hb0H]
      obtain ⟨V, rfl⟩ : ∃ V, V = wr := ⟨wr, rfl⟩
      have hfrO := hfr
      obtain ⟨gkO, hgO⟩ : ∃ gkO, gkO = gk := ⟨gk, rfl⟩
      have hgkO : Hidden (gkO = (Sts.cons h' e' b' l' r').len) := hgO.trans hgkH
      clear hfr hgkH
      go_loopg [5, 8] e'.len (fun g lv jv wr => ∃ (j : Nat) (q : Exs) (ac : Int), lv = ci ac ∧ jv = ci (j : Int) ∧ j + q.len = e'.len ∧ q.size ≤ e'.size ∧ ExR w ao1 j q ∧ dL q a ac = acc1 ∧ g = q.len ∧ Fr (fun _ => False) W0 wr)
      case atStart => exact ⟨0, e', acc, rfl, rfl, by omega, Nat.le_refl _, he, hacc1H, rfl, Fr.refl _ _⟩
      case round =>
        obtain ⟨j, q, ac, rfl, rfl, hln, hsz, hrw, hdq, hgq, hfr⟩ := hrel
        have hgqH : Hidden (gk = q.len) := hgq
        have hdqH : Hidden (dL q a ac = acc1) := hdq
        have hlnH : Hidden (j + q.len = e'.len) := hln
        clear hgq hdq hln he d0 d1 d2 d3 d4
        have hbw := hfr.heap hbx (fun f => f)
        obtain ⟨c0, c1, c2, c3, c4⟩ := st_box hbw
        have fw := hfa.same hfr
        cases q with
        | nil =>
          have hj : j = e'.len := hlnH
          subst hj
          have : ac = acc1 := hdqH
          subst this
          clear hgqH hdqH hlnH hsz hrw
          have tl : ((h'.kind == 8) = true ∨ 0 < l'.len) ∨ ((h'.kind == 8) = false ∧ ¬ 0 < l'.len) := by
            by_cases h8 : h'.kind = 8
            · exact Or.inl (Or.inl (by simp [h8]))
            · by_cases hz : 0 < l'.len
              · exact Or.inl (Or.inr hz)
              · exact Or.inr ⟨by simp [h8], hz⟩
          rcases tb with tb | ⟨tb, tb2⟩ <;> rcases tl with tl | ⟨tl, tl2⟩
          · have ea2 : Hidden (acc2 = max ac (dS b' (wrap64 (a + 1)) (wrap64 (a + 1)))) := by
              rw [show acc2 = _ from hacc2, if_pos (by rcases tb with tb | tb <;> simp [tb])]
              exact rfl
            have kb := fun (w1 : World) (f : Fr (fun _ => False) w w1) => hkb (wrap64 (a + 1)) _ ao2 cap2 w1 rfl (hL2.keep f)
            have ea3 : Hidden (acc3 = max acc2 (dS l' (wrap64 (a + 1)) (wrap64 (a + 1)))) := by
              rw [show acc3 = _ from hacc3, if_pos (tl.imp (fun h => by simpa using h) id)]
              exact rfl
            have kl := fun (w1 : World) (f : Fr (fun _ => False) w w1) => hkl (wrap64 (a + 1)) _ ao3 cap3 w1 rfl (hL3.keep f)
            clear hacc2 hacc3
            go_wp2_with fail
            all_goals first | (exfalso; clear ea2 ea3 hdk2; simp only [hasBody, Bool.or_eq_true, Bool.or_eq_false_iff, beq_iff_eq, beq_eq_false_iff_ne, decide_eq_false_iff_not, decide_eq_true_eq, ne_eq] at *; omega) | skip
            all_goals
              go_at_call 133
              refine (kb _ fw).mono ?_
              rintro e W4 ⟨rfl, f4⟩
              have fw4 := fw.same f4
              obtain ⟨c0, c1, c2, c3, c4⟩ := st_box (f4.heap hbw (fun f => f))
              go_wp2_with fail
              all_goals first | (exfalso; clear ea2 ea3 hdk2; simp only [hasBody, Bool.or_eq_true, Bool.or_eq_false_iff, beq_iff_eq, beq_eq_false_iff_ne, decide_eq_false_iff_not, decide_eq_true_eq, ne_eq] at *; omega) | skip
              all_goals
                go_at_call 133
                refine (kl _ fw4).mono ?_
                rintro e W5 ⟨rfl, f5⟩
                have fw5 := fw4.same f5
                go_wp2_with fail
                all_goals
                  go_roundg r'.len
                  case measure =>
                    have : gkO = r'.len + 1 := hgkO
                    omega
                  case rel =>
                    refine ⟨i + 1, r', _, rfl, by go_num, ?_, by omega, ?_, hrow2, ?_, rfl, fw5⟩
                    · have : i + (r'.len + 1) = k.len := hlenH
                      omega
                    · have e2 : acc2 = _ := ea2
                      have e3 : acc3 = _ := ea3
                      clear hkb hkl
                      omega
                    · rw [← (show _ = R from hdk2)]
                      congr 1
                      have e2 : acc2 = _ := ea2
                      have e3 : acc3 = _ := ea3
                      clear hkb hkl
                      omega
          · have ea2 : Hidden (acc2 = max ac (dS b' (wrap64 (a + 1)) (wrap64 (a + 1)))) := by
              rw [show acc2 = _ from hacc2, if_pos (by rcases tb with tb | tb <;> simp [tb])]
              exact rfl
            have kb := fun (w1 : World) (f : Fr (fun _ => False) w w1) => hkb (wrap64 (a + 1)) _ ao2 cap2 w1 rfl (hL2.keep f)
            have ea3 : Hidden (acc3 = acc2) := by
              rw [show acc3 = _ from hacc3, if_neg (by simp only [beq_eq_false_iff_ne, ne_eq] at tl; simp only [not_or]; exact ⟨tl, tl2⟩)]
              exact rfl
            clear hacc2 hacc3
            go_wp2_with fail
            all_goals first | (exfalso; clear ea2 ea3 hdk2; simp only [hasBody, Bool.or_eq_true, Bool.or_eq_false_iff, beq_iff_eq, beq_eq_false_iff_ne, decide_eq_false_iff_not, decide_eq_true_eq, ne_eq] at *; omega) | skip
            all_goals
              go_at_call 133
              refine (kb _ fw).mono ?_
              rintro e W4 ⟨rfl, f4⟩
              have fw4 := fw.same f4
              obtain ⟨c0, c1, c2, c3, c4⟩ := st_box (f4.heap hbw (fun f => f))
              go_wp2_with fail
              all_goals first | (exfalso; clear ea2 ea3 hdk2; simp only [hasBody, Bool.or_eq_true, Bool.or_eq_false_iff, beq_iff_eq, beq_eq_false_iff_ne, decide_eq_false_iff_not, decide_eq_true_eq, ne_eq] at *; omega) | skip
              all_goals
                go_roundg r'.len
                case measure =>
                  have : gkO = r'.len + 1 := hgkO
                  omega
                case rel =>
                  refine ⟨i + 1, r', _, rfl, by go_num, ?_, by omega, ?_, hrow2, ?_, rfl, fw4⟩
                  · have : i + (r'.len + 1) = k.len := hlenH
                    omega
                  · have e2 : acc2 = _ := ea2
                    have e3 : acc3 = _ := ea3
                    clear hkb hkl
                    omega
                  · rw [← (show _ = R from hdk2)]
                    congr 1
                    have e2 : acc2 = _ := ea2
                    have e3 : acc3 = _ := ea3
                    clear hkb hkl
                    omega
          · have ea2 : Hidden (acc2 = ac) := by
              rw [show acc2 = _ from hacc2, if_neg (by simp [tb, tb2])]
              exact rfl
            have n3 : (h'.kind == 3) = false := by simp only [hasBody, Bool.or_eq_false_iff] at tb; exact tb.1.1
            have n4 : (h'.kind == 4) = false := by simp only [hasBody, Bool.or_eq_false_iff] at tb; exact tb.1.2
            have n8 : (h'.kind == 8) = false := by simp only [hasBody, Bool.or_eq_false_iff] at tb; exact tb.2
            clear tb
            have ea3 : Hidden (acc3 = max acc2 (dS l' (wrap64 (a + 1)) (wrap64 (a + 1)))) := by
              rw [show acc3 = _ from hacc3, if_pos (tl.imp (fun h => by simpa using h) id)]
              exact rfl
            have kl := fun (w1 : World) (f : Fr (fun _ => False) w w1) => hkl (wrap64 (a + 1)) _ ao3 cap3 w1 rfl (hL3.keep f)
            clear hacc2 hacc3
            go_wp2_with fail
            all_goals first | (exfalso; clear ea2 ea3 hdk2; simp only [hasBody, Bool.or_eq_true, Bool.or_eq_false_iff, beq_iff_eq, beq_eq_false_iff_ne, decide_eq_false_iff_not, decide_eq_true_eq, ne_eq] at *; omega) | skip
            all_goals
              go_at_call 133
              refine (kl _ fw).mono ?_
              rintro e W5 ⟨rfl, f5⟩
              have fw5 := fw.same f5
              go_wp2_with fail
              all_goals
                go_roundg r'.len
                case measure =>
                  have : gkO = r'.len + 1 := hgkO
                  omega
                case rel =>
                  refine ⟨i + 1, r', _, rfl, by go_num, ?_, by omega, ?_, hrow2, ?_, rfl, fw5⟩
                  · have : i + (r'.len + 1) = k.len := hlenH
                    omega
                  · have e2 : acc2 = _ := ea2
                    have e3 : acc3 = _ := ea3
                    clear hkb hkl
                    omega
                  · rw [← (show _ = R from hdk2)]
                    congr 1
                    have e2 : acc2 = _ := ea2
                    have e3 : acc3 = _ := ea3
                    clear hkb hkl
                    omega
          · have ea2 : Hidden (acc2 = ac) := by
              rw [show acc2 = _ from hacc2, if_neg (by simp [tb, tb2])]
              exact rfl
            have n3 : (h'.kind == 3) = false := by simp only [hasBody, Bool.or_eq_false_iff] at tb; exact tb.1.1
            have n4 : (h'.kind == 4) = false := by simp only [hasBody, Bool.or_eq_false_iff] at tb; exact tb.1.2
            have n8 : (h'.kind == 8) = false := by simp only [hasBody, Bool.or_eq_false_iff] at tb; exact tb.2
            clear tb
            have ea3 : Hidden (acc3 = acc2) := by
              rw [show acc3 = _ from hacc3, if_neg (by simp only [beq_eq_false_iff_ne, ne_eq] at tl; simp only [not_or]; exact ⟨tl, tl2⟩)]
              exact rfl
            clear hacc2 hacc3
            go_wp2_with fail
            all_goals first | (exfalso; clear ea2 ea3 hdk2; simp only [hasBody, Bool.or_eq_true, Bool.or_eq_false_iff, beq_iff_eq, beq_eq_false_iff_ne, decide_eq_false_iff_not, decide_eq_true_eq, ne_eq] at *; omega) | skip
            all_goals
              go_roundg r'.len
              case measure =>
                have : gkO = r'.len + 1 := hgkO
                omega
              case rel =>
                refine ⟨i + 1, r', _, rfl, by go_num, ?_, by omega, ?_, hrow2, ?_, rfl, fw⟩
                · have : i + (r'.len + 1) = k.len := hlenH
                  omega
                · have e2 : acc2 = _ := ea2
                  have e3 : acc3 = _ := ea3
                  clear hkb hkl
                  omega
                · rw [← (show _ = R from hdk2)]
                  congr 1
                  have e2 : acc2 = _ := ea2
                  have e3 : acc3 = _ := ea3
                  clear hkb hkl
                  omega
        | cons h2 k2 r2 =>
          have hjl : j < e'.len := by have : j + (r2.len + 1) = e'.len := hlnH; omega
          obtain ⟨bb, offb, ao', cap', rfl, hL, hrow3, x0, x1, x2, x3, x4, x5, x6⟩ := hrw.next
          have x0 := fw.cellN x0
          have x1 := fw.cellN x1
          have x2 := fw.cellN x2
          have x3 := fw.cellN x3
          have x4 := fw.cellN x4
          have x5 := fw.cellN x5
          have x6 := fw.cellN x6
          have ke := depth_any h2 k2 1 a _ ao' cap' wr rfl (hL.keep fw)
          go_wp2_with fail
          go_at_call 132
          refine ke.mono ?_
          rintro e W3 ⟨rfl, f3⟩
          go_wp2_with fail
          all_goals
            go_roundg r2.len
            case measure =>
              have : gk = r2.len + 1 := hgqH
              omega
            case rel =>
              refine ⟨j + 1, r2, _, rfl, by go_num, ?_, ?_, hrow3, ?_, rfl, hfr.same f3⟩
              · have : j + (r2.len + 1) = e'.len := hlnH
                omega
              · simp only [Exs.size] at hsz; omega
              · rw [← (show _ = acc1 from hdqH)]
                show dL r2 a _ = dL r2 a (max ac (dX h2 k2 1 a))
                congr 1
                omega
theorem block_any (k : Sts) : BlockC k := by
  have : ∀ (n : Nat) (k : Sts), k.size < n → BlockC k := by
    intro n
    induction n with
    | zero => intro k hk; omega
    | succ n ih => intro k hk; exact block_step k (fun k' hk' => ih k' (by omega))
  exact this (k.size + 1) k (by omega)
set_option maxRecDepth 20000 in
set_option maxHeartbeats 4000000 in
theorem decl_any (d : De) (pv ev bv : Value) (R : Int) (hR : Hidden (dD d = R)) (w : World) (hd : DeI w d pv ev bv) :
    Calls Tryz.prog 86 #[deV d pv ev bv] w fun e w' => e = .returned (ci R) ∧ Fr (fun _ => False) w w' := by
  obtain ⟨ao1, cap1, ao2, cap2, ao3, cap3, rfl, rfl, rfl, hp, he, hb⟩ := hd
  have hbx : Hidden ((w.alloc (.cells #[ci d.kind, .bool d.ex, ct d.name, ci d.type, .slice ao1 d.params.length cap1, .slice ao2 d.e.len cap2, .slice ao3 d.body.len cap3] 51)).heap[w.heap.size]? = some (.cells #[ci d.kind, .bool d.ex, ct d.name, ci d.type, .slice ao1 d.params.length cap1, .slice ao2 d.e.len cap2, .slice ao3 d.body.len cap3] 51 (0, 0))) := alloc_new _ _
  have hfr0 : Fr (fun _ => False) w (w.alloc (.cells #[ci d.kind, .bool d.ex, ct d.name, ci d.type, .slice ao1 d.params.length cap1, .slice ao2 d.e.len cap2, .slice ao3 d.body.len cap3] 51)) := Fr.alloc _ _ _
  have hrest := he.rest
  have l2 : d.e.len ≤ 9223372036854775807 := by have := he.1; have := he.2.1; unfold maxLen at this; omega
  have l3 : d.body.len ≤ 9223372036854775807 := by have := hb.1; have := hb.2.1; unfold maxLen at this; omega
  have hkb := block_any d.body
  unfold BlockC at hkb
  have kb := fun (w1 : World) (f : Fr (fun _ => False) w w1) => hkb 1 _ ao3 cap3 w1 rfl (hb.keep f)
  obtain ⟨acc1, hacc1⟩ : ∃ acc1, dL d.e 0 0 = acc1 := ⟨_, rfl⟩
  have hacc1H : Hidden (dL d.e 0 0 = acc1) := hacc1
  have tb : (((d.kind == 3) = true ∨ 0 < d.body.len) ∧ Hidden (max acc1 (dS d.body 1 1) = R)) ∨ ((d.kind == 3) = false ∧ ¬ 0 < d.body.len ∧ Hidden (acc1 = R)) := by
    have hR1 : dD d = R := hR
    unfold dD at hR1
    rw [hacc1] at hR1
    by_cases h8 : d.kind = 3
    · exact Or.inl ⟨Or.inl (by simp [h8]), by rw [← hR1]; simp [Hidden, h8]⟩
    · by_cases hz : 0 < d.body.len
      · exact Or.inl ⟨Or.inr hz, by rw [← hR1]; simp [Hidden, h8, hz]⟩
      · exact Or.inr ⟨by simp [h8], hz, by rw [← hR1]; simp [Hidden, h8, hz]⟩
  clear hR hacc1
  go_enter Tryz.func86, Tryz.ntmps86
  go_wp2_with fail
  go_loopg [3, 4] d.e.len (fun g lv jv wr => ∃ (j : Nat) (q : Exs) (ac : Int), lv = ci ac ∧ jv = ci (j : Int) ∧ j + q.len = d.e.len ∧ q.size ≤ d.e.size ∧ ExR w ao2 j q ∧ dL q 0 ac = acc1 ∧ g = q.len ∧ Fr (fun _ => False) (w.alloc (.cells #[ci d.kind, .bool d.ex, ct d.name, ci d.type, .slice ao1 d.params.length cap1, .slice ao2 d.e.len cap2, .slice ao3 d.body.len cap3] 51)) wr)
  case atStart => exact ⟨0, d.e, 0, rfl, rfl, by omega, Nat.le_refl _, hrest, hacc1H, rfl, Fr.refl _ _⟩
  case round =>
    obtain ⟨j, q, ac, rfl, rfl, hln, hsz, hrw, hdq, hgq, hfr⟩ := hrel
    have hgqH : Hidden (gk = q.len) := hgq
    have hdqH : Hidden (dL q 0 ac = acc1) := hdq
    have hlnH : Hidden (j + q.len = d.e.len) := hln
    clear hgq hdq hln hrest
    have hbw := hfr.heap hbx (fun f => f)
    obtain ⟨c0, c1, c2, c3, c4, c5, c6⟩ := ex_box hbw
    have fw := hfr0.same hfr
    cases q with
    | nil =>
      have hj : j = d.e.len := hlnH
      subst hj
      have : ac = acc1 := hdqH
      subst this
      clear hgqH hdqH hlnH hsz hrw
      rcases tb with ⟨tb, eR⟩ | ⟨tb, tb2, eR⟩
      · go_wp2_with fail
        all_goals first | (exfalso; clear eR; simp only [beq_iff_eq, beq_eq_false_iff_ne, decide_eq_false_iff_not, decide_eq_true_eq, ne_eq] at *; omega) | skip
        all_goals
          go_at_call 133
          refine (kb _ fw).mono ?_
          rintro e W4 ⟨rfl, f4⟩
          go_wp2_with fail
          all_goals
            go_ret
            refine ⟨ret_int ?_, fw.same f4⟩
            have eb : _ = R := eR
            clear kb hkb
            omega
      · go_wp2_with fail
        go_ret
        exact ⟨ret_int eR, fw⟩
    | cons h2 k2 r2 =>
      have hjl : j < d.e.len := by have : j + (r2.len + 1) = d.e.len := hlnH; omega
      obtain ⟨bb, offb, ao', cap', rfl, hL, hrow3, x0, x1, x2, x3, x4, x5, x6⟩ := hrw.next
      have x0 := fw.cellN x0
      have x1 := fw.cellN x1
      have x2 := fw.cellN x2
      have x3 := fw.cellN x3
      have x4 := fw.cellN x4
      have x5 := fw.cellN x5
      have x6 := fw.cellN x6
      have ke := depth_any h2 k2 1 0 _ ao' cap' wr rfl (hL.keep fw)
      go_wp2_with fail
      go_at_call 132
      refine ke.mono ?_
      rintro e W3 ⟨rfl, f3⟩
      go_wp2_with fail
      all_goals
        go_roundg r2.len
        case measure =>
          have : gk = r2.len + 1 := hgqH
          omega
        case rel =>
          refine ⟨j + 1, r2, _, rfl, by go_num, ?_, ?_, hrow3, ?_, rfl, hfr.same f3⟩
          · have : j + (r2.len + 1) = d.e.len := hlnH
            omega
          · simp only [Exs.size] at hsz; omega
          · rw [← (show _ = acc1 from hdqH)]
            show dL r2 0 _ = dL r2 0 (max ac (dX h2 k2 1 0))
            congr 1
            omega
end Go.Proofs.YteijjaabngkbjaaGreatDoor.X
namespace Go.Proofs.YteijjaabngkbjaaGreatDoor.X
open Go.RowKit Te
set_option linter.unusedSimpArgs false
set_option linter.unusedVariables false
set_option maxRecDepth 20000 in
set_option maxHeartbeats 4000000 in
theorem declared_any (d : De) (pv ev bv : Value) (w : World) (hd : DeI w d pv ev bv) (r : Bool) (hr : Hidden (fitsD d = r)) :
    Calls Tryz.prog 87 #[deV d pv ev bv] w fun e w' => e = .returned (.bool r) ∧ Fr (fun _ => False) w w' := by
  obtain ⟨ao1, cap1, ao2, cap2, ao3, cap3, rfl, rfl, rfl, hp, he, hb⟩ := hd
  obtain ⟨kind, ex, name, type, params, e, body⟩ := d
  simp only at hp he hb
  have l1 : params.length ≤ 9223372036854775807 := by have := hp.1; have := hp.2.1; unfold maxLen at this; omega
  have l2 : e.len ≤ 9223372036854775807 := by have := he.1; have := he.2.1; unfold maxLen at this; omega
  have l3 : body.len ≤ 9223372036854775807 := by have := hb.1; have := hb.2.1; unfold maxLen at this; omega
  have c1 := hp.1
  have c2 := he.1
  have c3 := hb.1
  clear hp he hb
  have kv := fun w => valued_any type _ rfl w
  by_cases h1 : kind = 1
  · subst h1
    have hr2 : Hidden ((isTy type && decide (e.len = 1 ∧ params.length = 0 ∧ body.len = 0)) = r) := by rw [← (show _ = r from hr)]; simp [Hidden, fitsD]
    clear hr
    generalize isTy type = ty at kv hr2
    generalize e.len = ne at *
    generalize params.length = np at *
    generalize body.len = nb at *
    cases ty
    all_goals
      go_enter Tryz.func87, Tryz.ntmps87
      go_wp2_with (go_at_call 88; refine (kv _).mono ?_; rintro e w' ⟨rfl, rfl⟩)
      all_goals
        go_ret
        refine ⟨ret_bl ?_, Fr.alloc _ _ _⟩
        rw [← (show _ = r from hr2)]
        clear hr2 kv
        try simp only [beq_iff_eq, beq_eq_false_iff_ne, ne_eq] at *
        first | (simp [*]; done) | (simp [*]; omega) | (rw [Bool.eq_iff_iff]; simp [*]; done) | (rw [Bool.eq_iff_iff]; simp [*]; omega)
  · have n1 : (kind == 1) = false := by simp [h1]
    by_cases h2 : kind = 2
    · subst h2
      have hr2 : Hidden ((!ex && (isTy type && decide (e.len = 1 ∧ params.length = 0 ∧ body.len = 0))) = r) := by rw [← (show _ = r from hr)]; simp [Hidden, fitsD, Bool.and_assoc]
      clear hr
      generalize isTy type = ty at kv hr2
      generalize e.len = ne at *
      generalize params.length = np at *
      generalize body.len = nb at *
      cases ty <;> cases ex
      all_goals
        go_enter Tryz.func87, Tryz.ntmps87
        go_wp2_with (go_at_call 88; refine (kv _).mono ?_; rintro e w' ⟨rfl, rfl⟩)
        all_goals
          go_ret
          refine ⟨ret_bl ?_, Fr.alloc _ _ _⟩
          rw [← (show _ = r from hr2)]
          clear hr2 kv
          try simp only [beq_iff_eq, beq_eq_false_iff_ne, ne_eq] at *
          first | (simp [*]; done) | (simp [*]; omega) | (rw [Bool.eq_iff_iff]; simp [*]; done) | (rw [Bool.eq_iff_iff]; simp [*]; omega)
    · have n2 : (kind == 2) = false := by simp [h2]
      by_cases h3 : kind = 3
      · subst h3
        have hr2 : Hidden (((type == 0 || isTy type) && decide (e.len = 0)) = r) := by rw [← (show _ = r from hr)]; simp [Hidden, fitsD]
        clear hr
        by_cases h0 : type = 0
        · subst h0
          generalize e.len = ne at *
          go_enter Tryz.func87, Tryz.ntmps87
          go_wp2_with fail
          all_goals
            go_ret
            refine ⟨ret_bl ?_, Fr.alloc _ _ _⟩
            rw [← (show _ = r from hr2)]
            clear hr2 kv
            try simp only [beq_iff_eq, beq_eq_false_iff_ne, ne_eq] at *
            first | (simp [*]; done) | (simp [*]; omega) | (rw [Bool.eq_iff_iff]; simp [*]; done) | (rw [Bool.eq_iff_iff]; simp [*]; omega)
        · have n0 : (type == 0) = false := by simp [h0]
          rw [n0] at hr2
          generalize isTy type = ty at kv hr2
          generalize e.len = ne at *
          cases ty
          all_goals
            go_enter Tryz.func87, Tryz.ntmps87
            go_wp2_with (go_at_call 88; refine (kv _).mono ?_; rintro e w' ⟨rfl, rfl⟩)
            all_goals
              go_ret
              refine ⟨ret_bl ?_, Fr.alloc _ _ _⟩
              rw [← (show _ = r from hr2)]
              clear hr2 kv
              try simp only [beq_iff_eq, beq_eq_false_iff_ne, ne_eq] at *
              first | (simp [*]; done) | (simp [*]; omega) | (rw [Bool.eq_iff_iff]; simp [*]; done) | (rw [Bool.eq_iff_iff]; simp [*]; omega)
      · have n3 : (kind == 3) = false := by simp [h3]
        have hr2 : Hidden (false = r) := by rw [← (show _ = r from hr)]; simp [Hidden, fitsD, h1, h2, h3]
        clear hr kv
        go_enter Tryz.func87, Tryz.ntmps87
        go_wp2_with fail
        go_ret
        exact ⟨ret_bl hr2, Fr.alloc _ _ _⟩
set_option maxRecDepth 20000 in
set_option maxHeartbeats 8000000 in
theorem de_any (d : De) (pv ev bv : Value) (w : World) (hd : DeI w d pv ev bv) (ok : OkD d) (R : Int) (hR : Hidden (errD rnS cnS d = R)) :
    Calls Tryz.prog 41 #[deV d pv ev bv] w fun e w' => e = .returned (ci R) ∧ Fr (fun _ => False) w w' := by
  have kd0 := fun (w1 : World) (f : Fr (fun _ => False) w w1) => decl_any d pv ev bv _ rfl w1 (hd.keep f)
  have kc0 := fun (w1 : World) (f : Fr (fun _ => False) w w1) => declared_any d pv ev bv w1 (hd.keep f) _ rfl
  obtain ⟨ao1, cap1, ao2, cap2, ao3, cap3, rfl, rfl, rfl, hp, he, hb⟩ := hd
  obtain ⟨kind, ex, name, type, params, e, body⟩ := d
  simp only at hp he hb
  have l1 : params.length ≤ 9223372036854775807 := by have := hp.1; have := hp.2.1; unfold maxLen at this; omega
  have l2 : e.len ≤ 9223372036854775807 := by have := he.1; have := he.2.1; unfold maxLen at this; omega
  have m1 := hp.1
  have m2 := he.1
  have hbx : Hidden ((w.alloc (.cells #[ci kind, .bool ex, ct name, ci type, .slice ao1 params.length cap1, .slice ao2 e.len cap2, .slice ao3 body.len cap3] 51)).heap[w.heap.size]? = some (.cells #[ci kind, .bool ex, ct name, ci type, .slice ao1 params.length cap1, .slice ao2 e.len cap2, .slice ao3 body.len cap3] 51 (0, 0))) := alloc_new _ _
  have f0 : Fr (fun _ => False) w (w.alloc (.cells #[ci kind, .bool ex, ct name, ci type, .slice ao1 params.length cap1, .slice ao2 e.len cap2, .slice ao3 body.len cap3] 51)) := Fr.alloc _ _ _
  have kb := fun (w1 : World) (f : Fr (fun _ => False) w w1) => sts_any body ao3 cap3 w1 ok.body (hb.keep f)
  have hR1 : Hidden (orE (if 32 < dD ⟨kind, ex, name, type, params, e, body⟩ then 13 else 0) (orE (if fitsD ⟨kind, ex, name, type, params, e, body⟩ then 0 else 1) (orE (N.rightS name) (orE (if 8 < params.length then 3 else 0) (orE (errP rnS params) (orE (errL rnS cnS e) (errS rnS cnS body)))))) = R) := hR
  clear hR
  have kd : ∀ (w1 : World) (f : Fr (fun _ => False) w w1), _ := kd0
  have kc : ∀ (w1 : World) (f : Fr (fun _ => False) w w1), _ := kc0
  clear kd0 kc0
  generalize dD ⟨kind, ex, name, type, params, e, body⟩ = dep at kd hR1
  generalize fitsD ⟨kind, ex, name, type, params, e, body⟩ = fit at kc hR1
  by_cases hdep : 32 < dep
  · have hres : Hidden (13 = R) := by rw [← (show _ = R from hR1)]; simp [Hidden, orE, hdep]
    clear hR1
    go_enter Tryz.func41, Tryz.ntmps41
    go_wp2_with fail
    go_at_call 86
    refine (kd _ f0).mono ?_
    rintro ee w1 ⟨rfl, f1⟩
    have y1 := f1.heap hbx (fun f => f)
    obtain ⟨c0, c1, c2, c3, c4, c5, c6⟩ := ex_box y1
    have g1 := f0.same f1
    go_wp2_with fail
    go_ret
    exact ⟨ret_int hres, g1⟩
  cases fit with
  | false =>
    have hres : Hidden (1 = R) := by rw [← (show _ = R from hR1)]; simp [Hidden, orE, hdep]
    clear hR1
    go_enter Tryz.func41, Tryz.ntmps41
    go_wp2_with fail
    go_at_call 86
    refine (kd _ f0).mono ?_
    rintro ee w1 ⟨rfl, f1⟩
    have y1 := f1.heap hbx (fun f => f)
    obtain ⟨c0, c1, c2, c3, c4, c5, c6⟩ := ex_box y1
    have g1 := f0.same f1
    go_wp2_with fail
    go_at_call 87
    refine (kc _ g1).mono ?_
    rintro ee w2 ⟨rfl, f2⟩
    have y2 := f2.heap y1 (fun f => f)
    obtain ⟨c0, c1, c2, c3, c4, c5, c6⟩ := ex_box y2
    have g2 := g1.same f2
    go_wp2_with fail
    go_ret
    exact ⟨ret_int hres, g2⟩
  | true =>
    by_cases hn : N.rightS name = 0
    · by_cases h8 : 8 < params.length
      · have hres : Hidden (3 = R) := by rw [← (show _ = R from hR1)]; simp [Hidden, orE, hdep, hn, h8]
        clear hR1
        go_enter Tryz.func41, Tryz.ntmps41
        go_wp2_with fail
        go_at_call 86
        refine (kd _ f0).mono ?_
        rintro ee w1 ⟨rfl, f1⟩
        have y1 := f1.heap hbx (fun f => f)
        obtain ⟨c0, c1, c2, c3, c4, c5, c6⟩ := ex_box y1
        have g1 := f0.same f1
        go_wp2_with fail
        go_at_call 87
        refine (kc _ g1).mono ?_
        rintro ee w2 ⟨rfl, f2⟩
        have y2 := f2.heap y1 (fun f => f)
        obtain ⟨c0, c1, c2, c3, c4, c5, c6⟩ := ex_box y2
        have g2 := g1.same f2
        go_wp2_with fail
        go_at_call 40
        refine (rright_any name _ hn ok.name _).mono ?_
        rintro ee w3 ⟨rfl, f3⟩
        have y3 := f3.heap y2 (fun f => f)
        obtain ⟨c0, c1, c2, c3, c4, c5, c6⟩ := ex_box y3
        have g3 := g2.same f3
        go_wp2_with fail
        go_ret
        exact ⟨ret_int hres, g3⟩
      · have hR2 : Hidden (orE (errP rnS params) (orE (errL rnS cnS e) (errS rnS cnS body)) = R) := by rw [← (show _ = R from hR1)]; simp [Hidden, orE, hdep, hn, h8]
        clear hR1
        obtain ⟨P, hP⟩ : ∃ P, errP rnS params = P := ⟨_, rfl⟩
        obtain ⟨E, hE⟩ : ∃ E, errL rnS cnS e = E := ⟨_, rfl⟩
        rw [hP, hE] at hR2
        have hPH : Hidden (errP rnS params = P) := hP
        have hEH : Hidden (errL rnS cnS e = E) := hE
        clear hP hE
        go_enter Tryz.func41, Tryz.ntmps41
        go_wp2_with fail
        go_at_call 86
        refine (kd _ f0).mono ?_
        rintro ee w1 ⟨rfl, f1⟩
        have y1 := f1.heap hbx (fun f => f)
        obtain ⟨c0, c1, c2, c3, c4, c5, c6⟩ := ex_box y1
        have g1 := f0.same f1
        go_wp2_with fail
        go_at_call 87
        refine (kc _ g1).mono ?_
        rintro ee w2 ⟨rfl, f2⟩
        have y2 := f2.heap y1 (fun f => f)
        obtain ⟨c0, c1, c2, c3, c4, c5, c6⟩ := ex_box y2
        have g2 := g1.same f2
        go_wp2_with fail
        go_at_call 40
        refine (rright_any name _ hn ok.name _).mono ?_
        rintro ee w3 ⟨rfl, f3⟩
        have y3 := f3.heap y2 (fun f => f)
        obtain ⟨c0, c1, c2, c3, c4, c5, c6⟩ := ex_box y3
        have g3 := g2.same f3
        go_wp2_with fail
        go_loopg [4] params.length (fun g iv wr => ∃ (i : Nat), iv = ci (i : Int) ∧ i ≤ params.length ∧ P = errP rnS (params.drop i) ∧ g = params.length - i ∧ Fr (fun _ => False) w3 wr)
        case atStart => exact ⟨0, rfl, by omega, (show _ = P from hPH).symm, rfl, Fr.refl _ _⟩
        case round =>
          obtain ⟨i, rfl, hi, hdk, hgk, hfr⟩ := hrel
          have hgkH : Hidden (gk = params.length - i) := hgk
          have hdkH : Hidden (P = errP rnS (params.drop i)) := hdk
          have hbw := hfr.heap y3 (fun f => f)
          obtain ⟨c0, c1, c2, c3, c4, c5, c6⟩ := ex_box hbw
          have fw := g3.same hfr
          clear hgk hdk hPH
          by_cases hil : i < params.length
          · obtain ⟨p, hp'⟩ : ∃ p, params[i]? = some p := ⟨params[i], List.getElem?_eq_getElem hil⟩
            have okp := ok.params p (List.mem_of_getElem? hp')
            rcases hp.2.2 with h0 | ⟨b, off, rfl, hc⟩
            · rw [h0] at hil; simp at hil
            have d0 := fw.cellN (hc i p hp' 0 _ rfl)
            have d1 := fw.cellN (hc i p hp' 1 _ rfl)
            simp only [Nat.add_zero] at d0
            have hdk2 : Hidden (P = orE (orE (N.rightS p.name) (if isTy p.type then 0 else 1)) (errP rnS (params.drop (i + 1)))) := by
              show P = _
              rw [show P = _ from hdkH, drop_at hp']
              rfl
            have kv := fun w => valued_any p.type _ rfl w
            generalize isTy p.type = ty at kv hdk2
            clear hdkH hc
            by_cases hpn : N.rightS p.name = 0
            · cases ty with
              | true =>
                have hdk3 : Hidden (P = errP rnS (params.drop (i + 1))) := by rw [show P = _ from hdk2]; simp [Hidden, orE, hpn]
                clear hdk2
                go_wp2_with fail
                go_at_call 40
                refine (rright_any p.name _ hpn okp.1 _).mono ?_
                rintro ee w4 ⟨rfl, f4⟩
                obtain ⟨c0, c1, c2, c3, c4, c5, c6⟩ := ex_box (f4.heap hbw (fun f => f))
                have d1' := f4.cellN d1
                go_wp2_with fail
                go_at_call 88
                refine (kv _).mono ?_
                rintro ee w5 ⟨rfl, rfl⟩
                go_wp2_with fail
                go_roundg (params.length - (i + 1))
                case measure =>
                  have : gk = params.length - i := hgkH
                  omega
                case rel => exact ⟨i + 1, by go_num, by omega, hdk3, rfl, hfr.same f4⟩
              | false =>
                have hres : Hidden (1 = R) := by
                  rw [← (show _ = R from hR2), show P = _ from hdk2]
                  simp [Hidden, orE, hpn]
                clear hdk2 hR2
                go_wp2_with fail
                go_at_call 40
                refine (rright_any p.name _ hpn okp.1 _).mono ?_
                rintro ee w4 ⟨rfl, f4⟩
                obtain ⟨c0, c1, c2, c3, c4, c5, c6⟩ := ex_box (f4.heap hbw (fun f => f))
                have d1' := f4.cellN d1
                go_wp2_with fail
                go_at_call 88
                refine (kv _).mono ?_
                rintro ee w5 ⟨rfl, rfl⟩
                go_wp2_with fail
                go_ret
                exact ⟨ret_int hres, fw.same f4⟩
            · obtain ⟨x, hxx⟩ : ∃ x, N.rightS p.name = x := ⟨_, rfl⟩
              have hx0 : (x != 0) = true := by rw [← hxx]; simpa using hpn
              have hx1 : (x == 0) = false := by rw [← hxx]; simpa using hpn
              have hres : Hidden (x = R) := by
                have hx2 : ¬ x = 0 := by rw [← hxx]; exact hpn
                rw [← (show _ = R from hR2), show P = _ from hdk2, hxx]
                simp [Hidden, orE, hx2]
              clear hdk2 hR2 hpn
              go_wp2_with fail
              go_at_call 40
              refine (rright_any p.name _ hxx okp.1 _).mono ?_
              rintro ee w4 ⟨rfl, f4⟩
              go_wp2_with fail
              go_ret
              exact ⟨ret_int hres, fw.same f4⟩
          · obtain rfl : i = params.length := by omega
            obtain rfl : P = 0 := by rw [show P = _ from hdkH, List.drop_length]; rfl
            have hR3 : Hidden (orE E (errS rnS cnS body) = R) := hR2
            clear hdkH hgkH hi hil hR2
            obtain ⟨V, rfl⟩ : ∃ V, V = wr := ⟨wr, rfl⟩
            have hfrV := hfr
            clear hfr
            go_wp2_with fail
            go_loopg [6] e.len (fun g jv wr => ∃ (j : Nat) (q : Exs), jv = ci (j : Int) ∧ j + q.len = e.len ∧ q.size ≤ e.size ∧ OkX q ∧ ExR w ao2 j q ∧ E = errL rnS cnS q ∧ g = q.len ∧ Fr (fun _ => False) w3 wr)
            case atStart => exact ⟨0, e, rfl, by omega, Nat.le_refl _, ok.e, he.rest, (show _ = E from hEH).symm, rfl, hfrV⟩
            case round =>
              clear c0 c1 c2 c3 c4 c5 c6 hbw fw
              obtain ⟨j, q, rfl, hln, hsz, hokq, hrw, hdq, hgq, hfr⟩ := hrel
              have hgqH : Hidden (gk = q.len) := hgq
              have hdqH : Hidden (E = errL rnS cnS q) := hdq
              have hlnH : Hidden (j + q.len = e.len) := hln
              have hbw := hfr.heap y3 (fun f => f)
              obtain ⟨c0, c1, c2, c3, c4, c5, c6⟩ := ex_box hbw
              have fw := g3.same hfr
              clear hgq hdq hln hEH
              cases q with
              | nil =>
                have hj : j = e.len := hlnH
                subst hj
                obtain rfl : E = 0 := hdqH
                have hres : Hidden (errS rnS cnS body = R) := hR3
                clear hgqH hlnH hsz hrw hR3
                go_wp2_with fail
                go_at_call 90
                refine (kb _ fw).mono ?_
                rintro ee W4 ⟨rfl, f4⟩
                go_wp2_with fail
                go_ret
                exact ⟨ret_int hres, fw.same f4⟩
              | cons h2 k2 r2 =>
                have hjl : j < e.len := by have : j + (r2.len + 1) = e.len := hlnH; omega
                obtain ⟨bb, offb, ao', cap', rfl, hL, hrow3, x0, x1, x2, x3, x4, x5, x6⟩ := hrw.next
                have x0 := fw.cellN x0
                have x1 := fw.cellN x1
                have x2 := fw.cellN x2
                have x3 := fw.cellN x3
                have x4 := fw.cellN x4
                have x5 := fw.cellN x5
                have x6 := fw.cellN x6
                have kx := expr_any h2 k2 ao' cap' _ hokq.1 hokq.2.1 (hL.keep fw)
                have hdq2 : Hidden (E = orE (orE (errH rnS cnS h2 k2.len) (errL rnS cnS k2)) (errL rnS cnS r2)) := hdqH
                generalize orE (errH rnS cnS h2 k2.len) (errL rnS cnS k2) = x at kx hdq2
                clear hdqH
                by_cases h0 : x = 0
                · subst h0
                  have hdq3 : Hidden (E = errL rnS cnS r2) := hdq2
                  clear hdq2
                  go_wp2_with fail
                  go_at_call 89
                  refine kx.mono ?_
                  rintro ee W3 ⟨rfl, f4⟩
                  go_wp2_with fail
                  go_roundg r2.len
                  case measure =>
                    have : gk = r2.len + 1 := hgqH
                    omega
                  case rel =>
                    refine ⟨j + 1, r2, by go_num, ?_, ?_, hokq.2.2, hrow3, hdq3, rfl, hfr.same f4⟩
                    · have : j + (r2.len + 1) = e.len := hlnH
                      omega
                    · simp only [Exs.size] at hsz; omega
                · have hx0 : (x != 0) = true := by simpa using h0
                  have hx1 : (x == 0) = false := by simpa using h0
                  have hres : Hidden (x = R) := by
                    have e1 : E = x := by rw [show E = _ from hdq2, orE_ne _ h0]
                    rw [← (show _ = R from hR3), e1]
                    simp [Hidden, orE, h0]
                  clear hdq2 hR3 h0
                  go_wp2_with fail
                  go_at_call 89
                  refine kx.mono ?_
                  rintro ee W3 ⟨rfl, f4⟩
                  go_wp2_with fail
                  go_ret
                  exact ⟨ret_int hres, fw.same f4⟩
    · obtain ⟨x, hxx⟩ : ∃ x, N.rightS name = x := ⟨_, rfl⟩
      have hx0 : (x != 0) = true := by rw [← hxx]; simpa using hn
      have hx1 : (x == 0) = false := by rw [← hxx]; simpa using hn
      have hres : Hidden (x = R) := by
        have hx2 : ¬ x = 0 := by rw [← hxx]; exact hn
        rw [← (show _ = R from hR1), hxx]
        simp [Hidden, orE, hdep, hx2]
      clear hR1 hn
      go_enter Tryz.func41, Tryz.ntmps41
      go_wp2_with fail
      go_at_call 86
      refine (kd _ f0).mono ?_
      rintro ee w1 ⟨rfl, f1⟩
      have y1 := f1.heap hbx (fun f => f)
      obtain ⟨c0, c1, c2, c3, c4, c5, c6⟩ := ex_box y1
      have g1 := f0.same f1
      go_wp2_with fail
      go_at_call 87
      refine (kc _ g1).mono ?_
      rintro ee w2 ⟨rfl, f2⟩
      have y2 := f2.heap y1 (fun f => f)
      obtain ⟨c0, c1, c2, c3, c4, c5, c6⟩ := ex_box y2
      have g2 := g1.same f2
      go_wp2_with fail
      go_at_call 40
      refine (rright_any name _ hxx ok.name _).mono ?_
      rintro ee w3 ⟨rfl, f3⟩
      have y3 := f3.heap y2 (fun f => f)
      obtain ⟨c0, c1, c2, c3, c4, c5, c6⟩ := ex_box y3
      have g3 := g2.same f3
      go_wp2_with fail
      go_ret
      exact ⟨ret_int hres, g3⟩
end Go.Proofs.YteijjaabngkbjaaGreatDoor.X
