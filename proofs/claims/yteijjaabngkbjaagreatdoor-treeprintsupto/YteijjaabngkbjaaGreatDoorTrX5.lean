/- The document's depth of blocks. -/
import Derived.Test.YteijjaabngkbjaaGreatDoorTrX4
namespace Go.Proofs.YteijjaabngkbjaaGreatDoor.X
open Go.RowKit Te
set_option linter.unusedSimpArgs false
set_option linter.unusedVariables false

theorem dL_max : ∀ (k : Exs) (a b c : Int), dL k a (max b c) = max b (dL k a c)
  | .nil, _, _, _ => rfl
  | .cons h k r, a, b, c => by
    unfold dL
    rw [Int.max_assoc]
    exact dL_max r a b _
theorem dL_acc (k : Exs) (a acc : Int) (h : a ≤ acc) : dL k a acc = max acc (dL k a a) := by
  rw [← dL_max, Int.max_eq_left h]
theorem le_dL : ∀ (k : Exs) (a acc : Int), acc ≤ dL k a acc
  | .nil, _, _ => Int.le_refl _
  | .cons h k r, a, acc => by
    unfold dL
    exact Int.le_trans (Int.le_max_left _ _) (le_dL r a _)
def BlockC (k : Sts) : Prop := ∀ (a R : Int) (ao : Option Addr) (cap : Nat) (w : World), Hidden (dS k a a = R) → StL w ao cap k →
  Calls Tryz.prog 133 #[.slice ao k.len cap, ci a] w fun e w' => e = .returned (ci R) ∧ Fr (fun _ => False) w w'
set_option maxRecDepth 20000 in
set_option maxHeartbeats 4000000 in
theorem block_step (k : Sts) (ih : ∀ k' : Sts, k'.size < k.size → BlockC k') : BlockC k := by
  intro a R ao cap w hR hk
  have hrest := hk.rest
  obtain ⟨hcap, hmax, _⟩ := hk
  have hlen : k.len ≤ 9223372036854775807 := by unfold maxLen at hmax; omega
  go_enter Tryz.func133, Tryz.ntmps133
  go_wp2_with fail
  go_loopg [5, 6] k.len (fun g lv iv wr => ∃ (i : Nat) (r : Sts) (acc : Int), lv = ci acc ∧ iv = ci (i : Int) ∧ i + r.len = k.len ∧ r.size ≤ k.size ∧ a ≤ acc ∧ StR w ao i r ∧ dS r a acc = R ∧ g = r.len ∧ Fr (fun _ => False) w wr)
  case atStart => exact ⟨0, k, a, rfl, rfl, by omega, Nat.le_refl _, Int.le_refl _, hrest, hR, rfl, Fr.refl _ _⟩
  case round =>
    obtain ⟨i, r, acc, rfl, rfl, hlen2, hsize, hacc, hrow, hdk, hgk, hfr⟩ := hrel
    have hgkH : Hidden (gk = r.len) := hgk
    have hdkH : Hidden (dS r a acc = R) := hdk
    have hlenH : Hidden (i + r.len = k.len) := hlen2
    clear hgk hdk hlen2 hrest
    cases r with
    | nil =>
      have hi : i = k.len := hlenH
      subst hi
      have : acc = R := hdkH
      subst this
      go_wp2_with fail
      go_ret
      exact ⟨rfl, hfr⟩
    | cons h' e' b' l' r' =>
      have hil : i < k.len := by have : i + (r'.len + 1) = k.len := hlenH; omega
      obtain ⟨b, off, ao1, cap1, ao2, cap2, ao3, cap3, rfl, hL1, hL2, hL3, hrow2, d0, d1, d2, d3, d4⟩ := hrow.next
      have d0 := hfr.cellN d0
      have d1 := hfr.cellN d1
      have d2 := hfr.cellN d2
      have d3 := hfr.cellN d3
      have d4 := hfr.cellN d4
      have hbx : Hidden ((wr.alloc (.cells #[ci h'.kind, ct h'.name, .slice ao1 e'.len cap1, .slice ao2 b'.len cap2, .slice ao3 l'.len cap3] 91)).heap[wr.heap.size]? = some (.cells #[ci h'.kind, ct h'.name, .slice ao1 e'.len cap1, .slice ao2 b'.len cap2, .slice ao3 l'.len cap3] 91 (0, 0))) := alloc_new _ _
      have hfa : Fr (fun _ => False) w (wr.alloc (.cells #[ci h'.kind, ct h'.name, .slice ao1 e'.len cap1, .slice ao2 b'.len cap2, .slice ao3 l'.len cap3] 91)) := hfr.same (Fr.alloc _ _ _)
      generalize hb0 : wr.alloc (.cells #[ci h'.kind, ct h'.name, .slice ao1 e'.len cap1, .slice ao2 b'.len cap2, .slice ao3 l'.len cap3] 91) = W0 at hbx hfa
      have hb0H : Hidden (wr.alloc (.cells #[ci h'.kind, ct h'.name, .slice ao1 e'.len cap1, .slice ao2 b'.len cap2, .slice ao3 l'.len cap3] 91) = W0) := hb0
      clear hb0
      simp only [Sts.size] at hsize
      have l1 : e'.len ≤ 9223372036854775807 := by have := hL1.1; have := hL1.2.1; unfold maxLen at this; omega
      have l2 : b'.len ≤ 9223372036854775807 := by have := hL2.1; have := hL2.2.1; unfold maxLen at this; omega
      have l3 : l'.len ≤ 9223372036854775807 := by have := hL3.1; have := hL3.2.1; unfold maxLen at this; omega
      have hkb := ih b' (by omega)
      have hkl := ih l' (by omega)
      unfold BlockC at hkb hkl
      have he := hL1.rest
      obtain ⟨acc1, hacc1⟩ : ∃ acc1, dL e' a acc = acc1 := ⟨_, rfl⟩
      have hacc1H : Hidden (dL e' a acc = acc1) := hacc1
      have hle1 : acc ≤ acc1 := by rw [← hacc1]; exact le_dL _ _ _
      have tb : (hasBody h'.kind = true ∨ 0 < b'.len) ∨ (hasBody h'.kind = false ∧ ¬ 0 < b'.len) := by
        cases hasBody h'.kind
        · by_cases hz : 0 < b'.len
          · exact Or.inl (Or.inr hz)
          · exact Or.inr ⟨rfl, hz⟩
        · exact Or.inl (Or.inl rfl)
      obtain ⟨acc2, hacc2, hle2⟩ : ∃ acc2, Hidden (acc2 = if hasBody h'.kind || decide (0 < b'.len) then max acc1 (dS b' (wrap64 (a + 1)) (wrap64 (a + 1))) else acc1) ∧ acc1 ≤ acc2 := by
        refine ⟨_, rfl, ?_⟩
        split
        · exact Int.le_max_left _ _
        · exact Int.le_refl _
      obtain ⟨acc3, hacc3, hle3⟩ : ∃ acc3, Hidden (acc3 = if h'.kind = 8 ∨ 0 < l'.len then max acc2 (dS l' (wrap64 (a + 1)) (wrap64 (a + 1))) else acc2) ∧ acc2 ≤ acc3 := by
        refine ⟨_, rfl, ?_⟩
        split
        · exact Int.le_max_left _ _
        · exact Int.le_refl _
      have hdk2 : Hidden (dS r' a acc3 = R) := by
        have h0 : dS (.cons h' e' b' l' r') a acc = R := hdkH
        rw [dS_cons] at h0
        rw [← h0]
        have e1 : acc1 = max acc (dL e' a a) := by rw [← hacc1, dL_acc _ _ _ hacc]
        have e2 := (show acc2 = _ from hacc2)
        have e3 := (show acc3 = _ from hacc3)
        show dS r' a acc3 = dS r' a _
        congr 1
        rw [e3, e2, e1]
        unfold dSt
        by_cases c1 : (hasBody h'.kind || decide (0 < b'.len)) = true
        · by_cases c2 : h'.kind = 8 ∨ 0 < l'.len
          · simp only [if_pos c1, if_pos c2]; omega
          · simp only [if_pos c1, if_neg c2]; omega
        · by_cases c2 : h'.kind = 8 ∨ 0 < l'.len
          · simp only [if_neg c1, if_pos c2]; omega
          · simp only [if_neg c1, if_neg c2]
      clear hdkH hacc1
      go_wp2_with fail
      rw [show _ = W0 from hb0H]
      obtain ⟨V, rfl⟩ : ∃ V, V = wr := ⟨wr, rfl⟩
      have hfrO := hfr
      obtain ⟨gkO, hgO⟩ : ∃ gkO, gkO = gk := ⟨gk, rfl⟩
      have hgkO : Hidden (gkO = (Sts.cons h' e' b' l' r').len) := hgO.trans hgkH
      clear hfr hgkH
      go_loopg [5, 8] e'.len (fun g lv jv wr => ∃ (j : Nat) (q : Exs) (ac : Int), lv = ci ac ∧ jv = ci (j : Int) ∧ j + q.len = e'.len ∧ q.size ≤ e'.size ∧ ExR w ao1 j q ∧ dL q a ac = acc1 ∧ g = q.len ∧ Fr (fun _ => False) W0 wr)
      case atStart => exact ⟨0, e', acc, rfl, rfl, by omega, Nat.le_refl _, he, hacc1H, rfl, Fr.refl _ _⟩
      case round =>
        obtain ⟨j, q, ac, rfl, rfl, hln, hsz, hrw, hdq, hgq, hfr⟩ := hrel
        have hgqH : Hidden (gk = q.len) := hgq
        have hdqH : Hidden (dL q a ac = acc1) := hdq
        have hlnH : Hidden (j + q.len = e'.len) := hln
        clear hgq hdq hln he d0 d1 d2 d3 d4
        have hbw := hfr.heap hbx (fun f => f)
        obtain ⟨c0, c1, c2, c3, c4⟩ := st_box hbw
        have fw := hfa.same hfr
        cases q with
        | nil =>
          have hj : j = e'.len := hlnH
          subst hj
          have : ac = acc1 := hdqH
          subst this
          clear hgqH hdqH hlnH hsz hrw
          have tl : ((h'.kind == 8) = true ∨ 0 < l'.len) ∨ ((h'.kind == 8) = false ∧ ¬ 0 < l'.len) := by
            by_cases h8 : h'.kind = 8
            · exact Or.inl (Or.inl (by simp [h8]))
            · by_cases hz : 0 < l'.len
              · exact Or.inl (Or.inr hz)
              · exact Or.inr ⟨by simp [h8], hz⟩
          rcases tb with tb | ⟨tb, tb2⟩ <;> rcases tl with tl | ⟨tl, tl2⟩
          · have ea2 : Hidden (acc2 = max ac (dS b' (wrap64 (a + 1)) (wrap64 (a + 1)))) := by
              rw [show acc2 = _ from hacc2, if_pos (by rcases tb with tb | tb <;> simp [tb])]
              exact rfl
            have kb := fun (w1 : World) (f : Fr (fun _ => False) w w1) => hkb (wrap64 (a + 1)) _ ao2 cap2 w1 rfl (hL2.keep f)
            have ea3 : Hidden (acc3 = max acc2 (dS l' (wrap64 (a + 1)) (wrap64 (a + 1)))) := by
              rw [show acc3 = _ from hacc3, if_pos (tl.imp (fun h => by simpa using h) id)]
              exact rfl
            have kl := fun (w1 : World) (f : Fr (fun _ => False) w w1) => hkl (wrap64 (a + 1)) _ ao3 cap3 w1 rfl (hL3.keep f)
            clear hacc2 hacc3
            go_wp2_with fail
            all_goals first | (exfalso; clear ea2 ea3 hdk2; simp only [hasBody, Bool.or_eq_true, Bool.or_eq_false_iff, beq_iff_eq, beq_eq_false_iff_ne, decide_eq_false_iff_not, decide_eq_true_eq, ne_eq] at *; omega) | skip
            all_goals
              go_at_call 133
              refine (kb _ fw).mono ?_
              rintro e W4 ⟨rfl, f4⟩
              have fw4 := fw.same f4
              obtain ⟨c0, c1, c2, c3, c4⟩ := st_box (f4.heap hbw (fun f => f))
              go_wp2_with fail
              all_goals first | (exfalso; clear ea2 ea3 hdk2; simp only [hasBody, Bool.or_eq_true, Bool.or_eq_false_iff, beq_iff_eq, beq_eq_false_iff_ne, decide_eq_false_iff_not, decide_eq_true_eq, ne_eq] at *; omega) | skip
              all_goals
                go_at_call 133
                refine (kl _ fw4).mono ?_
                rintro e W5 ⟨rfl, f5⟩
                have fw5 := fw4.same f5
                go_wp2_with fail
                all_goals
                  go_roundg r'.len
                  case measure =>
                    have : gkO = r'.len + 1 := hgkO
                    omega
                  case rel =>
                    refine ⟨i + 1, r', _, rfl, by go_num, ?_, by omega, ?_, hrow2, ?_, rfl, fw5⟩
                    · have : i + (r'.len + 1) = k.len := hlenH
                      omega
                    · have e2 : acc2 = _ := ea2
                      have e3 : acc3 = _ := ea3
                      clear hkb hkl
                      omega
                    · rw [← (show _ = R from hdk2)]
                      congr 1
                      have e2 : acc2 = _ := ea2
                      have e3 : acc3 = _ := ea3
                      clear hkb hkl
                      omega
          · have ea2 : Hidden (acc2 = max ac (dS b' (wrap64 (a + 1)) (wrap64 (a + 1)))) := by
              rw [show acc2 = _ from hacc2, if_pos (by rcases tb with tb | tb <;> simp [tb])]
              exact rfl
            have kb := fun (w1 : World) (f : Fr (fun _ => False) w w1) => hkb (wrap64 (a + 1)) _ ao2 cap2 w1 rfl (hL2.keep f)
            have ea3 : Hidden (acc3 = acc2) := by
              rw [show acc3 = _ from hacc3, if_neg (by simp only [beq_eq_false_iff_ne, ne_eq] at tl; simp only [not_or]; exact ⟨tl, tl2⟩)]
              exact rfl
            clear hacc2 hacc3
            go_wp2_with fail
            all_goals first | (exfalso; clear ea2 ea3 hdk2; simp only [hasBody, Bool.or_eq_true, Bool.or_eq_false_iff, beq_iff_eq, beq_eq_false_iff_ne, decide_eq_false_iff_not, decide_eq_true_eq, ne_eq] at *; omega) | skip
            all_goals
              go_at_call 133
              refine (kb _ fw).mono ?_
              rintro e W4 ⟨rfl, f4⟩
              have fw4 := fw.same f4
              obtain ⟨c0, c1, c2, c3, c4⟩ := st_box (f4.heap hbw (fun f => f))
              go_wp2_with fail
              all_goals first | (exfalso; clear ea2 ea3 hdk2; simp only [hasBody, Bool.or_eq_true, Bool.or_eq_false_iff, beq_iff_eq, beq_eq_false_iff_ne, decide_eq_false_iff_not, decide_eq_true_eq, ne_eq] at *; omega) | skip
              all_goals
                go_roundg r'.len
                case measure =>
                  have : gkO = r'.len + 1 := hgkO
                  omega
                case rel =>
                  refine ⟨i + 1, r', _, rfl, by go_num, ?_, by omega, ?_, hrow2, ?_, rfl, fw4⟩
                  · have : i + (r'.len + 1) = k.len := hlenH
                    omega
                  · have e2 : acc2 = _ := ea2
                    have e3 : acc3 = _ := ea3
                    clear hkb hkl
                    omega
                  · rw [← (show _ = R from hdk2)]
                    congr 1
                    have e2 : acc2 = _ := ea2
                    have e3 : acc3 = _ := ea3
                    clear hkb hkl
                    omega
          · have ea2 : Hidden (acc2 = ac) := by
              rw [show acc2 = _ from hacc2, if_neg (by simp [tb, tb2])]
              exact rfl
            have n3 : (h'.kind == 3) = false := by simp only [hasBody, Bool.or_eq_false_iff] at tb; exact tb.1.1
            have n4 : (h'.kind == 4) = false := by simp only [hasBody, Bool.or_eq_false_iff] at tb; exact tb.1.2
            have n8 : (h'.kind == 8) = false := by simp only [hasBody, Bool.or_eq_false_iff] at tb; exact tb.2
            clear tb
            have ea3 : Hidden (acc3 = max acc2 (dS l' (wrap64 (a + 1)) (wrap64 (a + 1)))) := by
              rw [show acc3 = _ from hacc3, if_pos (tl.imp (fun h => by simpa using h) id)]
              exact rfl
            have kl := fun (w1 : World) (f : Fr (fun _ => False) w w1) => hkl (wrap64 (a + 1)) _ ao3 cap3 w1 rfl (hL3.keep f)
            clear hacc2 hacc3
            go_wp2_with fail
            all_goals first | (exfalso; clear ea2 ea3 hdk2; simp only [hasBody, Bool.or_eq_true, Bool.or_eq_false_iff, beq_iff_eq, beq_eq_false_iff_ne, decide_eq_false_iff_not, decide_eq_true_eq, ne_eq] at *; omega) | skip
            all_goals
              go_at_call 133
              refine (kl _ fw).mono ?_
              rintro e W5 ⟨rfl, f5⟩
              have fw5 := fw.same f5
              go_wp2_with fail
              all_goals
                go_roundg r'.len
                case measure =>
                  have : gkO = r'.len + 1 := hgkO
                  omega
                case rel =>
                  refine ⟨i + 1, r', _, rfl, by go_num, ?_, by omega, ?_, hrow2, ?_, rfl, fw5⟩
                  · have : i + (r'.len + 1) = k.len := hlenH
                    omega
                  · have e2 : acc2 = _ := ea2
                    have e3 : acc3 = _ := ea3
                    clear hkb hkl
                    omega
                  · rw [← (show _ = R from hdk2)]
                    congr 1
                    have e2 : acc2 = _ := ea2
                    have e3 : acc3 = _ := ea3
                    clear hkb hkl
                    omega
          · have ea2 : Hidden (acc2 = ac) := by
              rw [show acc2 = _ from hacc2, if_neg (by simp [tb, tb2])]
              exact rfl
            have n3 : (h'.kind == 3) = false := by simp only [hasBody, Bool.or_eq_false_iff] at tb; exact tb.1.1
            have n4 : (h'.kind == 4) = false := by simp only [hasBody, Bool.or_eq_false_iff] at tb; exact tb.1.2
            have n8 : (h'.kind == 8) = false := by simp only [hasBody, Bool.or_eq_false_iff] at tb; exact tb.2
            clear tb
            have ea3 : Hidden (acc3 = acc2) := by
              rw [show acc3 = _ from hacc3, if_neg (by simp only [beq_eq_false_iff_ne, ne_eq] at tl; simp only [not_or]; exact ⟨tl, tl2⟩)]
              exact rfl
            clear hacc2 hacc3
            go_wp2_with fail
            all_goals first | (exfalso; clear ea2 ea3 hdk2; simp only [hasBody, Bool.or_eq_true, Bool.or_eq_false_iff, beq_iff_eq, beq_eq_false_iff_ne, decide_eq_false_iff_not, decide_eq_true_eq, ne_eq] at *; omega) | skip
            all_goals
              go_roundg r'.len
              case measure =>
                have : gkO = r'.len + 1 := hgkO
                omega
              case rel =>
                refine ⟨i + 1, r', _, rfl, by go_num, ?_, by omega, ?_, hrow2, ?_, rfl, fw⟩
                · have : i + (r'.len + 1) = k.len := hlenH
                  omega
                · have e2 : acc2 = _ := ea2
                  have e3 : acc3 = _ := ea3
                  clear hkb hkl
                  omega
                · rw [← (show _ = R from hdk2)]
                  congr 1
                  have e2 : acc2 = _ := ea2
                  have e3 : acc3 = _ := ea3
                  clear hkb hkl
                  omega
        | cons h2 k2 r2 =>
          have hjl : j < e'.len := by have : j + (r2.len + 1) = e'.len := hlnH; omega
          obtain ⟨bb, offb, ao', cap', rfl, hL, hrow3, x0, x1, x2, x3, x4, x5, x6⟩ := hrw.next
          have x0 := fw.cellN x0
          have x1 := fw.cellN x1
          have x2 := fw.cellN x2
          have x3 := fw.cellN x3
          have x4 := fw.cellN x4
          have x5 := fw.cellN x5
          have x6 := fw.cellN x6
          have ke := depth_any h2 k2 1 a _ ao' cap' wr rfl (hL.keep fw)
          go_wp2_with fail
          go_at_call 132
          refine ke.mono ?_
          rintro e W3 ⟨rfl, f3⟩
          go_wp2_with fail
          all_goals
            go_roundg r2.len
            case measure =>
              have : gk = r2.len + 1 := hgqH
              omega
            case rel =>
              refine ⟨j + 1, r2, _, rfl, by go_num, ?_, ?_, hrow3, ?_, rfl, hfr.same f3⟩
              · have : j + (r2.len + 1) = e'.len := hlnH
                omega
              · simp only [Exs.size] at hsz; omega
              · rw [← (show _ = acc1 from hdqH)]
                show dL r2 a _ = dL r2 a (max ac (dX h2 k2 1 a))
                congr 1
                omega
theorem block_any (k : Sts) : BlockC k := by
  have : ∀ (n : Nat) (k : Sts), k.size < n → BlockC k := by
    intro n
    induction n with
    | zero => intro k hk; omega
    | succ n ih => intro k hk; exact block_step k (fun k' hk' => ih k' (by omega))
  exact this (k.size + 1) k (by omega)
set_option maxRecDepth 20000 in
set_option maxHeartbeats 4000000 in
theorem decl_any (d : De) (pv ev bv : Value) (R : Int) (hR : Hidden (dD d = R)) (w : World) (hd : DeI w d pv ev bv) :
    Calls Tryz.prog 86 #[deV d pv ev bv] w fun e w' => e = .returned (ci R) ∧ Fr (fun _ => False) w w' := by
  obtain ⟨ao1, cap1, ao2, cap2, ao3, cap3, rfl, rfl, rfl, hp, he, hb⟩ := hd
  have hbx : Hidden ((w.alloc (.cells #[ci d.kind, .bool d.ex, ct d.name, ci d.type, .slice ao1 d.params.length cap1, .slice ao2 d.e.len cap2, .slice ao3 d.body.len cap3] 51)).heap[w.heap.size]? = some (.cells #[ci d.kind, .bool d.ex, ct d.name, ci d.type, .slice ao1 d.params.length cap1, .slice ao2 d.e.len cap2, .slice ao3 d.body.len cap3] 51 (0, 0))) := alloc_new _ _
  have hfr0 : Fr (fun _ => False) w (w.alloc (.cells #[ci d.kind, .bool d.ex, ct d.name, ci d.type, .slice ao1 d.params.length cap1, .slice ao2 d.e.len cap2, .slice ao3 d.body.len cap3] 51)) := Fr.alloc _ _ _
  have hrest := he.rest
  have l2 : d.e.len ≤ 9223372036854775807 := by have := he.1; have := he.2.1; unfold maxLen at this; omega
  have l3 : d.body.len ≤ 9223372036854775807 := by have := hb.1; have := hb.2.1; unfold maxLen at this; omega
  have hkb := block_any d.body
  unfold BlockC at hkb
  have kb := fun (w1 : World) (f : Fr (fun _ => False) w w1) => hkb 1 _ ao3 cap3 w1 rfl (hb.keep f)
  obtain ⟨acc1, hacc1⟩ : ∃ acc1, dL d.e 0 0 = acc1 := ⟨_, rfl⟩
  have hacc1H : Hidden (dL d.e 0 0 = acc1) := hacc1
  have tb : (((d.kind == 3) = true ∨ 0 < d.body.len) ∧ Hidden (max acc1 (dS d.body 1 1) = R)) ∨ ((d.kind == 3) = false ∧ ¬ 0 < d.body.len ∧ Hidden (acc1 = R)) := by
    have hR1 : dD d = R := hR
    unfold dD at hR1
    rw [hacc1] at hR1
    by_cases h8 : d.kind = 3
    · exact Or.inl ⟨Or.inl (by simp [h8]), by rw [← hR1]; simp [Hidden, h8]⟩
    · by_cases hz : 0 < d.body.len
      · exact Or.inl ⟨Or.inr hz, by rw [← hR1]; simp [Hidden, h8, hz]⟩
      · exact Or.inr ⟨by simp [h8], hz, by rw [← hR1]; simp [Hidden, h8, hz]⟩
  clear hR hacc1
  go_enter Tryz.func86, Tryz.ntmps86
  go_wp2_with fail
  go_loopg [3, 4] d.e.len (fun g lv jv wr => ∃ (j : Nat) (q : Exs) (ac : Int), lv = ci ac ∧ jv = ci (j : Int) ∧ j + q.len = d.e.len ∧ q.size ≤ d.e.size ∧ ExR w ao2 j q ∧ dL q 0 ac = acc1 ∧ g = q.len ∧ Fr (fun _ => False) (w.alloc (.cells #[ci d.kind, .bool d.ex, ct d.name, ci d.type, .slice ao1 d.params.length cap1, .slice ao2 d.e.len cap2, .slice ao3 d.body.len cap3] 51)) wr)
  case atStart => exact ⟨0, d.e, 0, rfl, rfl, by omega, Nat.le_refl _, hrest, hacc1H, rfl, Fr.refl _ _⟩
  case round =>
    obtain ⟨j, q, ac, rfl, rfl, hln, hsz, hrw, hdq, hgq, hfr⟩ := hrel
    have hgqH : Hidden (gk = q.len) := hgq
    have hdqH : Hidden (dL q 0 ac = acc1) := hdq
    have hlnH : Hidden (j + q.len = d.e.len) := hln
    clear hgq hdq hln hrest
    have hbw := hfr.heap hbx (fun f => f)
    obtain ⟨c0, c1, c2, c3, c4, c5, c6⟩ := ex_box hbw
    have fw := hfr0.same hfr
    cases q with
    | nil =>
      have hj : j = d.e.len := hlnH
      subst hj
      have : ac = acc1 := hdqH
      subst this
      clear hgqH hdqH hlnH hsz hrw
      rcases tb with ⟨tb, eR⟩ | ⟨tb, tb2, eR⟩
      · go_wp2_with fail
        all_goals first | (exfalso; clear eR; simp only [beq_iff_eq, beq_eq_false_iff_ne, decide_eq_false_iff_not, decide_eq_true_eq, ne_eq] at *; omega) | skip
        all_goals
          go_at_call 133
          refine (kb _ fw).mono ?_
          rintro e W4 ⟨rfl, f4⟩
          go_wp2_with fail
          all_goals
            go_ret
            refine ⟨ret_int ?_, fw.same f4⟩
            have eb : _ = R := eR
            clear kb hkb
            omega
      · go_wp2_with fail
        go_ret
        exact ⟨ret_int eR, fw⟩
    | cons h2 k2 r2 =>
      have hjl : j < d.e.len := by have : j + (r2.len + 1) = d.e.len := hlnH; omega
      obtain ⟨bb, offb, ao', cap', rfl, hL, hrow3, x0, x1, x2, x3, x4, x5, x6⟩ := hrw.next
      have x0 := fw.cellN x0
      have x1 := fw.cellN x1
      have x2 := fw.cellN x2
      have x3 := fw.cellN x3
      have x4 := fw.cellN x4
      have x5 := fw.cellN x5
      have x6 := fw.cellN x6
      have ke := depth_any h2 k2 1 0 _ ao' cap' wr rfl (hL.keep fw)
      go_wp2_with fail
      go_at_call 132
      refine ke.mono ?_
      rintro e W3 ⟨rfl, f3⟩
      go_wp2_with fail
      all_goals
        go_roundg r2.len
        case measure =>
          have : gk = r2.len + 1 := hgqH
          omega
        case rel =>
          refine ⟨j + 1, r2, _, rfl, by go_num, ?_, ?_, hrow3, ?_, rfl, hfr.same f3⟩
          · have : j + (r2.len + 1) = d.e.len := hlnH
            omega
          · simp only [Exs.size] at hsz; omega
          · rw [← (show _ = acc1 from hdqH)]
            show dL r2 0 _ = dL r2 0 (max ac (dX h2 k2 1 0))
            congr 1
            omega
end Go.Proofs.YteijjaabngkbjaaGreatDoor.X
