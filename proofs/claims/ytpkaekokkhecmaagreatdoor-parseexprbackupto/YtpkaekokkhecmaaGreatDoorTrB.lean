/- How long texts of right expressions are. -/
import Derived.Test.YtpkaekokkhecmaaGreatDoorTrTAll
import Derived.Test.YtpkaekokkhecmaaGreatDoorTrIn
namespace Go.Proofs.YtpkaekokkhecmaaGreatDoor
open Go.RowKit Te
set_option linter.unusedSimpArgs false
set_option linter.unusedVariables false

theorem textS_len (a : Int) (ha : F.Fl.U a) : (F.textS a).length ≤ 3001 := by
  obtain ⟨h1, h2, h3⟩ := F.parts_bounds a ha
  have := F.sizeL_len (F.Fl.classS a) (F.partM a).toNat (F.partE a) h1 h2 h3
  unfold F.textS
  rw [List.length_append]
  split <;> simp <;> omega
theorem txS_len (vt vb : Int) (h0 : 0 ≤ vb) (h1 : vb < 18446744073709551616) (h2 : vt = 1 → vb < 9223372036854775808) : (txS vt vb).length ≤ 3001 := by
  unfold txS
  split
  · have hv := h2 (by assumption)
    have := (D.itoa_len vb ⟨by omega, by omega⟩).1
    omega
  split
  · exact textS_len vb ⟨h0, h1⟩
  split <;> simp
theorem In.bk_pos : ∀ k : Exs, 1 ≤ In.bkX k
  | .nil => Nat.le_refl _
  | .cons h k r => by have := In.bk_pos r; simp only [In.bkX]; omega
theorem pre_len (h : EH) (n : Nat) (ho : OkE h) (hs : ShE h n) : (pre txS h).length ≤ h.mod.length + h.name.length + 3010 := by
  unfold pre
  rcases hs with ⟨e, h1, _⟩ | ⟨e, _⟩ | ⟨e, _⟩ | e | e | ⟨e, q0, q1, _⟩ | ⟨e, q0, q1, _⟩ | ⟨e, _⟩
  · have := txS_len h.vt h.vb ho.vb0 ho.vb1 h1
    simp only [e, if_true]
    omega
  · simp [e]; omega
  · simp [e]; omega
  · simp [e]; omega
  · simp [e]; omega
  · simp only [e]
    simp
    repeat' split
    all_goals simp
    all_goals omega
  · simp [e]
  · simp [e]
theorem post_len (h : EH) : (post h).length ≤ 1 := by
  unfold post
  repeat' split
  all_goals simp
theorem mark_len (op : Int) : (Te.mark op).length ≤ 4 := by
  by_cases h : 1 ≤ op ∧ op ≤ 12
  · obtain rfl | rfl | rfl | rfl | rfl | rfl | rfl | rfl | rfl | rfl | rfl | rfl : op = 1 ∨ op = 2 ∨ op = 3 ∨ op = 4 ∨ op = 5 ∨ op = 6 ∨ op = 7 ∨ op = 8 ∨ op = 9 ∨ op = 10 ∨ op = 11 ∨ op = 12 := by omega
    all_goals decide
  · have e : Te.mark op = [32, 124, 124, 32] := by
      unfold Te.mark
      rw [if_neg (by omega), if_neg (by omega), if_neg (by omega), if_neg (by omega), if_neg (by omega), if_neg (by omega), if_neg (by omega), if_neg (by omega), if_neg (by omega), if_neg (by omega), if_neg (by omega), if_neg (by omega)]
    rw [e]
    decide
theorem sep_len (h : EH) : (sep h).length ≤ 4 := by
  unfold sep
  split
  · exact mark_len _
  · simp
theorem par_len (b : Bool) (l : Bs) : (par b l).length ≤ l.length + 2 := by
  unfold par
  split <;> simp
theorem txK_len : ∀ (k : Exs) (p : EH) (f : Bool), OkX k → ShL k → (txK txS p f k).length + 4000 ≤ 4000 * In.bkX k
  | .nil, _, _, _, _ => by simp [txK, In.bkX]
  | .cons h k r, p, f, ho, hs => by
    have i1 := txK_len k h true ho.2.1 hs.2.1
    have i2 := txK_len r p false ho.2.2 hs.2.2
    have e1 := pre_len h k.len ho.1 hs.1
    have e2 := post_len h
    have e3 := sep_len p
    have e4 := par_len (decide (level h < kidL p f)) (pre txS h ++ txK txS h true k ++ post h)
    unfold txK
    simp only [List.length_append, In.bkX] at e4 ⊢
    have e5 : (if f then [] else sep p : Bs).length ≤ 4 := by
      split
      · simp
      · exact e3
    omega
theorem bare_len (h : EH) (k : Exs) (ho : OkE h) (hx : OkX k) (hs : ShE h k.len) (hsl : ShL k) (hb : h.mod.length + h.name.length + In.bkX k ≤ 4194304) : (bare txS h k).length ≤ 20000000000 := by
  have i1 := txK_len k h true hx hsl
  have e1 := pre_len h k.len ho hs
  have e2 := post_len h
  unfold bare
  simp only [List.length_append]
  omega
theorem err_text (h : EH) (k : Exs) (ho : OkE h) (hx : OkX k) (hb : h.mod.length + h.name.length + In.bkX k ≤ 4194304) (he : errX rnS cnS h k = 0) : (bare txS h k).length ≤ 20000000000 := by
  unfold errX at he
  rw [orE_zero, orE_zero] at he
  exact bare_len h k ho hx (sh_of_err he.2.1) (shL_of_err k he.2.2) hb
end Go.Proofs.YtpkaekokkhecmaaGreatDoor
