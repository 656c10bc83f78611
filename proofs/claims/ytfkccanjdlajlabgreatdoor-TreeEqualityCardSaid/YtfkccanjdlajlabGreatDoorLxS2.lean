/- Plain: a token is the same, whatever stands behind the blank that ends it. -/
import Derived.Test.YtfkccanjdlajlabGreatDoorLxS
namespace Go.Proofs.YtfkccanjdlajlabGreatDoor
set_option linter.unusedSimpArgs false
set_option linter.unusedVariables false
namespace Lx
variable (words : List By) (V : Nat → By → Int × Int × Int)

theorem Cut.nil (r : By) : Cut r [] := fun c h => by simp at h
theorem Cut.blank (r : By) (b : UInt8) (z : By) (hb : blB b = true) : Cut r (b :: z) := fun c h hc => by
  have : b = c := by simpa using h
  rw [this] at hb
  rw [hb] at hc
  cases hc
/-- Something put in that begins with a blank, or behind the end. -/
theorem Cut.put (m q z : By) (b : UInt8) (hb : blB b = true) : Cut (m ++ q) (m ++ b :: z) := by
  intro c h hc
  match m with
  | [] => exact absurd (Cut.blank q b z hb c h hc) (by
      have : b = c := by simpa using h
      rw [this] at hb
      rw [hb] at hc
      cases hc)
  | [a] =>
    refine ⟨by simpa using h, fun d hd hdb => ?_⟩
    have : b = d := by simpa using hd
    rw [this] at hb
    rw [hb] at hdb
    cases hdb
  | a :: a' :: m' => exact ⟨by simpa using h, fun d hd hdb => by simpa using hd⟩
theorem nm_bl (c : UInt8) (h : blB c = true) : nmB c = false := (blank_no h).1
theorem hx_bl (c : UInt8) (h : blB c = true) : hxB c = false := (blank_no h).2.1
theorem dg_bl (c : UInt8) (h : blB c = true) : dgt c = false := (blank_no h).2.2.1

theorem mk_cut (x r r' : By) (h0 : x ≠ []) (h : mkLen (x ++ r) = x.length) (hc : Cut r r') : mkLen (x ++ r') = x.length := by
  match x, h0 with
  | [a], _ =>
    have ha : one a = true ∧ ∀ b, r[0]? = some b → two a b = false := by
      cases r with
      | nil =>
        simp only [List.append_nil, mkLen] at h
        split at h
        · rename_i e; exact ⟨e, by simp⟩
        · simp at h
      | cons b r2 =>
        simp only [List.cons_append, List.nil_append, mkLen] at h
        split at h
        · simp at h
        · rename_i e
          split at h
          · rename_i e2
            exact ⟨e2, fun c hcc => by have : b = c := by simpa using hcc
                                       rw [← this]; simpa using e⟩
          · simp at h
    cases r' with
    | nil => simp [mkLen, ha.1]
    | cons c r2 =>
      simp only [List.cons_append, List.nil_append, mkLen]
      have : two a c = false := by
        by_cases e : blB c = true
        · obtain ⟨_, _, _, _, _, _, h1, h2, h3⟩ := blank_no e
          simp [two, h1, h2, h3]
        · exact ha.2 c (hc c (by simp) (by simpa using e)).1
      simp [this, ha.1]
  | [a, b], _ =>
    simp only [List.cons_append, List.nil_append, mkLen] at h ⊢
    exact h
  | a :: b :: c :: x', _ =>
    simp only [List.cons_append, mkLen, List.length_cons] at h
    split at h
    · omega
    · split at h <;> omega

theorem num_cut (x r r' : By) (k : Nat) (h0 : x ≠ []) (h : numLen (x ++ r) = (k, x.length)) (hc : Cut r r') : numLen (x ++ r') = (k, x.length) := by
  unfold numLen at h
  by_cases e1 : (x ++ r).take 2 = [48, 120]
  · rw [if_pos e1] at h
    simp only [Prod.mk.injEq] at h
    obtain ⟨rfl, h⟩ := h
    match x, h0 with
    | [a], _ => simp at h; omega
    | a :: b :: y, _ =>
      have e2 : (a :: b :: y ++ r').take 2 = [48, 120] := by simpa using e1
      unfold numLen
      rw [if_pos e2]
      simp only [List.cons_append, List.drop_succ_cons, List.drop_zero, List.length_cons] at h ⊢
      rw [run_cut hxB hx_bl y r r' (by omega) hc]
      congr 1
      omega
  · rw [if_neg e1] at h
    have e2 : ¬ (x ++ r').take 2 = [48, 120] := by
      match x, h0 with
      | [a], _ =>
        intro e
        cases r' with
        | nil => simp at e
        | cons c r2 =>
          simp only [List.cons_append, List.nil_append, List.take_succ_cons, List.take_zero, List.cons.injEq, and_true] at e
          obtain ⟨rfl, rfl⟩ := e
          have := (hc 120 (by simp) (by decide)).1
          cases r with
          | nil => simp at this
          | cons d r3 =>
            have hd : d = 120 := by simpa using this
            subst hd
            exact e1 (by simp)
      | a :: b :: y, _ => simpa using e1
    by_cases e3 : (x ++ r)[run dgt (x ++ r)]? = some 46 ∧ run dgt ((x ++ r).drop (run dgt (x ++ r) + 1)) ≠ 0
    · rw [if_pos e3] at h
      simp only [Prod.mk.injEq] at h
      obtain ⟨rfl, h⟩ := h
      have hn : run dgt (x ++ r) < x.length := by omega
      obtain ⟨n, hne⟩ : ∃ n, n = run dgt (x ++ r) := ⟨_, rfl⟩
      rw [← hne] at h e3 hn
      have hx : x = x.take n ++ x.drop n := (List.take_append_drop n x).symm
      have hl : (x.take n).length = n := by rw [List.length_take]; omega
      have hr1 : run dgt (x.take n ++ (x.drop n ++ r)) = (x.take n).length := by rw [← List.append_assoc, ← hx, hl, hne]
      obtain ⟨ha, hb⟩ := run_all _ _ _ hr1
      have hr2 : run dgt (x ++ r') = n := by
        conv => lhs; rw [hx]
        rw [List.append_assoc]
        refine (run_stop dgt (x.take n) (x.drop n ++ r') ha fun c hc' => ?_).trans hl
        refine hb c ?_
        have : x.drop n ≠ [] := by intro e; have := congrArg List.length e; simp at this; omega
        obtain ⟨d, y, hy⟩ := List.exists_cons_of_ne_nil this
        rw [hy] at hc' ⊢
        simpa using hc'
      have hd : (x ++ r).drop (n + 1) = x.drop (n + 1) ++ r := by rw [List.drop_append_of_le_length (by omega)]
      have hd' : (x ++ r').drop (n + 1) = x.drop (n + 1) ++ r' := by rw [List.drop_append_of_le_length (by omega)]
      have hl2 : (x.drop (n + 1)).length = x.length - (n + 1) := by simp
      rw [hd] at h e3
      have hr3 : run dgt (x.drop (n + 1) ++ r') = (x.drop (n + 1)).length := run_cut dgt dg_bl _ r r' (by omega) hc
      unfold numLen
      rw [if_neg e2, hr2, hd', hr3, if_pos ⟨by rw [List.getElem?_append_left hn] at e3 ⊢; exact e3.1, by omega⟩]
      congr 1
      omega
    · rw [if_neg e3] at h
      simp only [Prod.mk.injEq] at h
      obtain ⟨rfl, h⟩ := h
      have hr2 := run_cut dgt dg_bl x r r' h hc
      unfold numLen
      rw [if_neg e2, hr2, if_neg]
      rintro ⟨h1, h2⟩
      rw [h] at e3
      apply e3
      rw [List.getElem?_append_right (by omega), Nat.sub_self] at h1 ⊢
      obtain ⟨h4, h5⟩ := hc 46 h1 (by decide)
      refine ⟨h4, fun e => h2 ?_⟩
      rw [run_zero] at e ⊢
      intro c hcc
      rw [drop_zero_get, List.getElem?_append_right (by omega), show x.length + 1 - x.length = 1 by omega] at hcc
      by_cases eb : blB c = true
      · exact dg_bl c eb
      · refine e c ?_
        rw [drop_zero_get, List.getElem?_append_right (by omega), show x.length + 1 - x.length = 1 by omega]
        exact h5 c hcc (by simpa using eb)

theorem kind_cut (x r r' : By) (k : Nat) (h0 : x ≠ []) (h : kindLen words (x ++ r) = (k, x.length)) (hc : Cut r r') : kindLen words (x ++ r') = (k, x.length) := by
  obtain ⟨a, y, rfl⟩ := List.exists_cons_of_ne_nil h0
  simp only [List.cons_append, kindLen] at h ⊢
  split at h
  · rename_i e
    rw [if_pos e]
    exact num_cut (a :: y) r r' k h0 h hc
  · rename_i e
    rw [if_neg e]
    split at h
    · rename_i e2
      rw [if_pos e2]
      simp only [Prod.mk.injEq] at h
      obtain ⟨h1, h2⟩ := h
      have hr := run_cut nmB nm_bl (a :: y) r r' h2 hc
      simp only [List.cons_append] at hr
      rw [hr]
      rw [h2] at h1
      rw [← h1]
      simp only [← List.cons_append, List.take_left]
    · rename_i e2
      rw [if_neg e2]
      simp only [Prod.mk.injEq] at h
      obtain ⟨h1, h2⟩ := h
      have := mk_cut (a :: y) r r' h0 h2 hc
      simp only [List.cons_append] at this
      rw [this, h1]
theorem gap_cut (x r r' : By) (h0 : x ≠ []) (h : gap (x ++ r) = 0) (hc : Cut r r') : gap (x ++ r') = 0 := by
  match x, h0 with
  | [a], _ =>
    show gapM false (a :: ([] ++ r')) = 0
    rw [gapM_false]
    have h' : gapM false (a :: r) = 0 := h
    rw [gapM_false] at h'
    split at h'
    · omega
    · rename_i hb
      rw [if_neg hb]
      split at h'
      · omega
      · rename_i hr
        rw [if_neg]
        rintro ⟨rfl, h2⟩
        exact hr ⟨rfl, (hc 47 h2 (by decide)).1⟩
  | a :: b :: y, _ =>
    show gapM false (a :: (b :: y ++ r')) = 0
    have h' : gapM false (a :: (b :: y ++ r)) = 0 := h
    rw [gapM_false] at h' ⊢
    split at h'
    · omega
    · rename_i hb
      rw [if_neg hb]
      split at h'
      · omega
      · rename_i hr
        rw [if_neg]
        rintro ⟨rfl, h2⟩
        exact hr ⟨rfl, by simpa using h2⟩
end Lx
end Go.Proofs.YtfkccanjdlajlabGreatDoor
