/- Plain: what is wrong in one with more behind it; two joined by an operator. -/
import Derived.Test.YtakkiipkmogagaaGreatTrS
namespace Go.Proofs.YtakkiipkmogagaaGreat
set_option linter.unusedSimpArgs false
set_option linter.unusedVariables false
namespace Te
open Go.RowKit (wrap64)

theorem orE_zero (a b : Int) : orE a b = 0 ↔ a = 0 ∧ b = 0 := by
  unfold orE
  split
  · simp [*]
  · simp [*]
theorem orE_0 (b : Int) : orE 0 b = b := rfl
theorem orE_ne {a : Int} (b : Int) (h : a ≠ 0) : orE a b = a := by simp [orE, h]
theorem orE_r0 (a : Int) : orE a 0 = a := by unfold orE; split <;> simp [*]
section
variable (rn : Bs → Int) (cn : Int → Int)
theorem errL_nil : errL rn cn .nil = 0 := rfl
theorem errL_cons (h : EH) (k r : Exs) : errL rn cn (.cons h k r) = orE (orE (errH rn cn h k.len) (errL rn cn k)) (errL rn cn r) := rfl
theorem errDs_app (l : List De) (d : De) : errDs rn cn (l ++ [d]) = orE (errDs rn cn l) (errD rn cn d) := by
  induction l with
  | nil => simp [errDs, orE_r0, orE_0]
  | cons x l ih =>
    rw [List.cons_append, errDs, ih, errDs]
    by_cases h : errD rn cn x = 0
    · simp [h, orE_0]
    · simp [orE_ne _ h]
/-- TreeFirst. -/
theorem first_big (m : Mo) (d : De) (h : 64 < m.decls.length + 1) : errM rn cn ⟨m.name, m.imports, m.decls ++ [d]⟩ ≠ 0 := by
  unfold errM
  simp only [List.length_append, List.length_cons, List.length_nil]
  rw [if_pos (show 64 < m.decls.length + (0 + 1) by omega)]
  intro h0
  rw [orE_zero, orE_zero, orE_zero, orE_zero] at h0
  omega
theorem first_wrong (m : Mo) (d : De) (h : m.decls.length + 1 ≤ 64) (he : errM rn cn m ≠ 0) : errM rn cn ⟨m.name, m.imports, m.decls ++ [d]⟩ = errM rn cn m := by
  unfold errM at he ⊢
  simp only [List.length_append, List.length_cons, List.length_nil]
  rw [if_neg (show ¬ 64 < m.decls.length + (0 + 1) by omega)]
  rw [if_neg (show ¬ 64 < m.decls.length by omega)] at he ⊢
  rw [errDs_app]
  simp only [orE_0] at he ⊢
  generalize rn m.name = a at *
  generalize (if 16 < m.imports.length then (3 : Int) else 0) = b at *
  generalize errI rn m.imports = c at *
  generalize errDs rn cn m.decls = f at *
  generalize errD rn cn d = g at *
  unfold orE at *
  repeat' split
  all_goals simp_all
theorem first_right (m : Mo) (d : De) (h : m.decls.length + 1 ≤ 64) (he : errM rn cn m = 0) : errM rn cn ⟨m.name, m.imports, m.decls ++ [d]⟩ = errM rn cn ⟨m.name, [], [d]⟩ := by
  unfold errM at he ⊢
  rw [orE_zero, orE_zero, orE_zero, orE_zero] at he
  obtain ⟨h1, h2, h3, h4, h5⟩ := he
  simp only [List.length_append, List.length_cons, List.length_nil]
  rw [if_neg (show ¬ 64 < m.decls.length + (0 + 1) by omega)]
  rw [h1, h2, h3, errDs_app, h5]
  simp [orE_0, errI, errDs, orE_r0]
end

theorem le_dK (p : EH) : ∀ (k : Exs) (f : Bool) (a acc : Int), acc ≤ dK p k f a acc
  | .nil, _, _, _ => Int.le_refl _
  | .cons h k r, f, a, acc => by
    unfold dK
    exact Int.le_trans (Int.le_max_left _ _) (le_dK p r false a _)
theorem dK_cons (p h : EH) (k r : Exs) (f : Bool) (a acc : Int) : dK p (.cons h k r) f a acc = dK p r false a (max acc (dK h k true (inAt h (kidL p f) (wrap64 (a + kidD p))) (inAt h (kidL p f) (wrap64 (a + kidD p))))) := rfl
theorem dK_nil (p : EH) (f : Bool) (a acc : Int) : dK p .nil f a acc = acc := rfl
theorem kidD_01 (p : EH) : kidD p = 0 ∨ kidD p = 1 := by
  unfold kidD
  repeat' split
  all_goals simp
theorem wrp_small {z : Int} (h0 : 0 ≤ z) (h1 : z ≤ 100) : wrap64 z = z := by
  simp [wrap64, IntKind.wrap, IntKind.bits, IntKind.signed]
  omega
theorem inAt_le (h : EH) (l : Int) {a b : Int} (h0 : 0 ≤ a) (hab : a ≤ b) (hb : b ≤ 33) : 0 ≤ inAt h l a ∧ inAt h l a ≤ inAt h l b ∧ inAt h l b ≤ b + 1 := by
  unfold inAt
  split
  · rw [wrp_small (by omega) (by omega), wrp_small (by omega) (by omega)]
    omega
  · omega
/-- What is nested too deep is so further within. -/
theorem dK_deep : ∀ (k : Exs) (p : EH) (f : Bool) (a b acc acc' : Int), 0 ≤ a → a ≤ b → b ≤ 34 → (33 ≤ b → 32 < acc') → (32 < acc → 32 < acc') → 32 < dK p k f a acc → 32 < dK p k f b acc'
  | .nil, p, f, a, b, acc, acc', _, _, _, _, h4, h5 => by
    simp only [dK] at *
    omega
  | .cons h k r, p, f, a, b, acc, acc', h0, h1, h2, h3, h4, h5 => by
    by_cases hacc : 32 < acc'
    · exact Int.lt_of_lt_of_le hacc (le_dK p _ f b acc')
    · have hb : b ≤ 32 := by omega
      unfold dK at h5 ⊢
      have hk := kidD_01 p
      have e1 := wrp_small (z := a + kidD p) (by omega) (by omega)
      have e2 := wrp_small (z := b + kidD p) (by omega) (by omega)
      rw [e1] at h5
      rw [e2]
      obtain ⟨i1, i2, i3⟩ := inAt_le h (kidL p f) (a := a + kidD p) (b := b + kidD p) (by omega) (by omega) (by omega)
      have ih := dK_deep k h true _ _ (inAt h (kidL p f) (a + kidD p)) (inAt h (kidL p f) (b + kidD p)) i1 i2 (by omega) (fun h => by omega) (fun h => by omega)
      refine dK_deep r p false a b _ _ h0 h1 h2 (fun h => by omega) (fun hm => ?_) h5
      rcases (show 32 < acc ∨ 32 < dK h k true (inAt h (kidL p f) (a + kidD p)) (inAt h (kidL p f) (a + kidD p)) by omega) with h6 | h6
      · have := h4 h6; omega
      · have := ih h6; omega
theorem level_pos (h : EH) : 1 ≤ level h := by
  unfold level lv2
  repeat' split
  all_goals omega
theorem inAt_one (h : EH) (a : Int) : inAt h 1 a = a := by
  have := level_pos h
  unfold inAt
  rw [if_neg (by omega)]

/-- Two joined by an operator. -/
abbrev bh (op : Int) : EH := ⟨7, op, [], [], 0, 0⟩
abbrev two2 (h1 : EH) (k1 : Exs) (h2 : EH) (k2 : Exs) : Exs := .cons h1 k1 (.cons h2 k2 .nil)
section
variable (rn : Bs → Int) (cn : Int → Int)
theorem two_deep1 (op : Int) (h1 h2 : EH) (k1 k2 : Exs) (hd : 32 < dX h1 k1 1 0) : 32 < dX (bh op) (two2 h1 k1 h2 k2) 1 0 := by
  unfold dX at hd ⊢
  rw [inAt_one] at hd ⊢
  rw [dK_cons]
  have e0 : kidD (bh op) = 0 := by simp [kidD]
  rw [e0, show wrap64 (0 + 0) = 0 by rw [wrp_small] <;> omega]
  obtain ⟨i1, i2, i3⟩ := inAt_le h1 (kidL (bh op) true) (a := 0) (b := 0) (by omega) (by omega) (by omega)
  have := dK_deep k1 h1 true 0 (inAt h1 (kidL (bh op) true) 0) 0 (inAt h1 (kidL (bh op) true) 0) (by omega) i1 (by omega) (fun h => by omega) (fun h => by omega) hd
  exact Int.lt_of_lt_of_le (Int.lt_of_lt_of_le this (Int.le_max_right _ _)) (le_dK _ _ _ _ _)
theorem two_deep2 (op : Int) (h1 h2 : EH) (k1 k2 : Exs) (hd : 32 < dX h2 k2 1 0) : 32 < dX (bh op) (two2 h1 k1 h2 k2) 1 0 := by
  unfold dX at hd ⊢
  rw [inAt_one] at hd ⊢
  rw [dK_cons, dK_cons, dK_nil]
  have e0 : kidD (bh op) = 0 := by simp [kidD]
  rw [e0, show wrap64 (0 + 0) = 0 by rw [wrp_small] <;> omega]
  obtain ⟨i1, i2, i3⟩ := inAt_le h2 (kidL (bh op) false) (a := 0) (b := 0) (by omega) (by omega) (by omega)
  have := dK_deep k2 h2 true 0 (inAt h2 (kidL (bh op) false) 0) 0 (inAt h2 (kidL (bh op) false) 0) (by omega) i1 (by omega) (fun h => by omega) (fun h => by omega) hd
  omega
theorem two_len (h1 h2 : EH) (k1 k2 : Exs) : (two2 h1 k1 h2 k2).len = 2 := rfl
theorem two_fits (op : Int) : fitsE cn (bh op) 2 = decide (1 ≤ op ∧ op ≤ 13) := by simp [fitsE]
theorem two_bad (op : Int) (h1 h2 : EH) (k1 k2 : Exs) (h : errX rn cn h1 k1 ≠ 0 ∨ errX rn cn h2 k2 ≠ 0 ∨ ¬ (1 ≤ op ∧ op ≤ 13)) : errX rn cn (bh op) (two2 h1 k1 h2 k2) ≠ 0 := by
  intro h0
  unfold errX at h0
  rw [orE_zero, orE_zero] at h0
  obtain ⟨a1, a2, a3⟩ := h0
  rw [errL_cons, errL_cons, errL_nil, orE_r0, orE_zero, orE_zero, orE_zero] at a3
  obtain ⟨⟨b1, b2⟩, b3, b4⟩ := a3
  unfold errH at a2
  rw [two_len, two_fits, orE_zero] at a2
  have hd : ¬ 32 < dX (bh op) (two2 h1 k1 h2 k2) 1 0 := by
    intro hd
    rw [if_pos hd] at a1
    omega
  rcases h with h | h | h
  · apply h
    unfold errX
    rw [b1, b2, if_neg (fun hd' => hd (two_deep1 op h1 h2 k1 k2 hd'))]
    rfl
  · apply h
    unfold errX
    rw [b3, b4, if_neg (fun hd' => hd (two_deep2 op h1 h2 k1 k2 hd'))]
    rfl
  · have : decide (1 ≤ op ∧ op ≤ 13) = false := by simp only [decide_eq_false_iff_not]; exact h
    rw [this] at a2
    simp at a2
theorem two_good (op : Int) (h1 h2 : EH) (k1 k2 : Exs) (g1 : errX rn cn h1 k1 = 0) (g2 : errX rn cn h2 k2 = 0) (ho : 1 ≤ op ∧ op ≤ 13) :
    errX rn cn (bh op) (two2 h1 k1 h2 k2) = 0 ∨ errX rn cn (bh op) (two2 h1 k1 h2 k2) = 13 := by
  unfold errX at g1 g2
  rw [orE_zero, orE_zero] at g1 g2
  unfold errX
  rw [errL_cons, errL_cons, errL_nil]
  have hf : fitsE cn (bh op) 2 = true := by rw [two_fits]; simpa using ho
  have e1 : errH rn cn (bh op) (two2 h1 k1 h2 k2).len = 0 := by
    unfold errH
    rw [two_len, hf]
    simp [orE, nameE]
  rw [e1, g1.2.1, g1.2.2, g2.2.1, g2.2.2]
  by_cases hd : 32 < dX (bh op) (two2 h1 k1 h2 k2) 1 0
  · rw [if_pos hd]; right; rfl
  · rw [if_neg hd]; left; rfl
variable (tx : Int → Int → Bs)
theorem two_text (op : Int) (h1 h2 : EH) (k1 k2 : Exs) :
    bare tx (bh op) (two2 h1 k1 h2 k2) = par (decide (level h1 < kidL (bh op) true)) (bare tx h1 k1) ++ (mark op ++ par (decide (level h2 < kidL (bh op) false)) (bare tx h2 k2)) := by
  simp [bare, txK, pre, post, sep]
end
end Te
end Go.Proofs.YtakkiipkmogagaaGreat
