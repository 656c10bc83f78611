/- Plain: the tokens of an expression's text. -/
import Derived.Test.YtpkaekokkhecmaaGreatDoorPsE
import Derived.Test.YtpkaekokkhecmaaGreatDoorLxAll
namespace Go.Proofs.YtpkaekokkhecmaaGreatDoor
set_option linter.unusedSimpArgs false
set_option linter.unusedVariables false
namespace Pz
open Lx Te

abbrev Co := Nat × By × Int × Int
section
variable {words : List By} {V : Nat → By → Int × Int × Int}
/-- A text's tokens, but for their places. -/
def Rd (words : List By) (V : Nat → By → Int × Int × Int) (u : By) (T : List Co) : Prop := ∀ q, ∃ ts, Toks words V q (u.drop (gap u)) ts ∧ ts.map Tok.core = T
theorem Rd.nil : Rd words V [] [] := fun q => ⟨[], by simpa using Toks.done q, rfl⟩
theorem Rd.blank {c : UInt8} {u : By} {T : List Co} (hc : blB c = true) (h : Rd words V u T) : Rd words V (c :: u) T := by
  intro q
  obtain ⟨ts, h1, h2⟩ := h q
  refine ⟨ts, ?_, h2⟩
  rw [gap, gapM_false, if_pos hc, Nat.add_comm, List.drop_succ_cons]
  exact h1
theorem Rd.step {x r : By} {k : Nat} {ty b : Int} {T : List Co} (h0 : x ≠ []) (hg : gap (x ++ r) = 0) (hk : kindLen words (x ++ r) = (k, x.length)) (hv : V k x = (ty, b, 0)) (h : Rd words V r T) : Rd words V (x ++ r) ((k, x, ty, b) :: T) := by
  intro q
  obtain ⟨ts, h1, h2⟩ := h (q + x.length + gap r)
  refine ⟨⟨k, x, ty, b, q⟩ :: ts, ?_, by simp [h2, Tok.core]⟩
  rw [hg, List.drop_zero]
  exact .more q x r k ty b ts hk h0 hg hv h1
theorem gap0 {c : UInt8} {r : By} (h1 : blB c = false) (h2 : c ≠ 47) : gap (c :: r) = 0 := by
  rw [gap, gapM_false, if_neg (by simp [h1]), if_neg (fun h => h2 h.1)]
theorem ltr_f {c : UInt8} (h : ltr c = true) : blB c = false ∧ c ≠ 47 ∧ dgt c = false ∧ c ≠ 61 := by
  refine ⟨?_, ?_, ?_, ?_⟩
  · cases hb : blB c with
    | false => rfl
    | true => have := (blank_no hb).1; simp [nmB, h] at this
  · rintro rfl; revert h; decide
  · simp only [ltr, dgt, Bool.or_eq_true, Bool.and_eq_true, decide_eq_true_eq, Bool.and_eq_false_iff, decide_eq_false_iff_not] at *; omega
  · rintro rfl; revert h; decide
theorem dgt_f {c : UInt8} (h : dgt c = true) : blB c = false ∧ c ≠ 47 ∧ c ≠ 61 := by
  refine ⟨?_, ?_, ?_⟩
  · cases hb : blB c with
    | false => rfl
    | true => have := (blank_no hb).2.2.1; simp [h] at this
  · rintro rfl; revert h; decide
  · rintro rfl; revert h; decide
/-- What a name ends at. -/
def StN (r : By) : Prop := ∀ c, r[0]? = some c → nmB c = false
/-- What an expression ends at. -/
def enB (c : UInt8) : Bool := c == 32 || c == 41 || c == 44 || c == 59
def End (r : By) : Prop := ∀ c, r[0]? = some c → enB c = true
theorem enB_c {c : UInt8} (h : enB c = true) : c = 32 ∨ c = 41 ∨ c = 44 ∨ c = 59 := by
  simpa [enB, or_assoc] using h
theorem End.st {r : By} (h : End r) : StN r := fun c hc => by
  rcases enB_c (h c hc) with rfl | rfl | rfl | rfl <;> decide
theorem End.no {r : By} (h : End r) : r[0]? ≠ some 61 := fun hc => by
  have := h _ hc; revert this; decide
theorem End.nil : End [] := fun c h => by simp at h
theorem End.cons {c : UInt8} {r : By} (h : enB c = true) : End (c :: r) := fun d hd => by
  simp at hd; subst hd; exact h
theorem StN.cons {c : UInt8} {r : By} (h : nmB c = false) : StN (c :: r) := fun d hd => by
  simp at hd; subst hd; exact h
/-- A name or a word. -/
theorem Rd.word {x r : By} {T : List Co} {ty b : Int} (hx : ∃ c r', x = c :: r' ∧ ltr c = true) (ha : ∀ c ∈ x, nmB c = true) (hr : StN r) (k : Nat) (hk : k = if x ∈ words then 2 else 1) (hv : V k x = (ty, b, 0)) (h : Rd words V r T) : Rd words V (x ++ r) ((k, x, ty, b) :: T) := by
  obtain ⟨c, r', rfl, hc⟩ := hx
  obtain ⟨f1, f2, f3, _⟩ := ltr_f hc
  have hrun := run_stop nmB (c :: r') r ha hr
  refine Rd.step (by simp) (by rw [List.cons_append]; exact gap0 f1 f2) ?_ hv h
  rw [List.cons_append] at hrun ⊢
  rw [kind_cons, if_neg (by simp [f3]), if_pos hc, hrun, hk]
  congr 2
  rw [← List.cons_append, List.take_left]
/-- A mark of one byte. -/
theorem Rd.mark {a : UInt8} {r : By} {T : List Co} (h1 : Lx.one a = true) (h2 : ∀ b, r[0]? = some b → Lx.two a b = false) (h3 : gap (a :: r) = 0) (hv : V 5 [a] = (0, 0, 0)) (h : Rd words V r T) : Rd words V (a :: r) ((5, [a], 0, 0) :: T) := by
  have e : kindLen words (a :: r) = (5, 1) := by
    have hd : dgt a = false ∧ ltr a = false := by
      simp only [Lx.one, Bool.or_eq_true, beq_iff_eq] at h1
      rcases h1 with (((((((((((((((h | h) | h) | h) | h) | h) | h) | h) | h) | h) | h) | h) | h) | h) | h) | h) | h <;> (subst h; decide)
    rw [kind_cons, if_neg (by simp [hd.1]), if_neg (by simp [hd.2])]
    cases r with
    | nil => simp [mkLen, h1]
    | cons b r => rw [mkLen, if_neg (by simp [h2 b (by simp)]), if_pos h1]
  exact Rd.step (x := [a]) (r := r) (by simp) h3 e hv h
/-- A mark of two bytes. -/
theorem Rd.mark2 {a b : UInt8} {r : By} {T : List Co} (h1 : Lx.two a b = true) (hv : V 5 [a, b] = (0, 0, 0)) (h : Rd words V r T) : Rd words V (a :: b :: r) ((5, [a, b], 0, 0) :: T) := by
  have ha : a = 60 ∨ a = 62 ∨ a = 61 ∨ a = 33 ∨ a = 38 ∨ a = 124 := by
    simp only [Lx.two, Bool.or_eq_true, Bool.and_eq_true, beq_iff_eq] at h1
    rcases h1 with (⟨_, ((h | h) | h) | h⟩ | ⟨h, _⟩) | ⟨h, _⟩ <;> simp [h]
  have hd : dgt a = false ∧ ltr a = false ∧ blB a = false ∧ a ≠ 47 := by
    rcases ha with rfl | rfl | rfl | rfl | rfl | rfl <;> decide
  have e : kindLen words (a :: b :: r) = (5, 2) := by
    rw [kind_cons, if_neg (by simp [hd.1]), if_neg (by simp [hd.2.1]), mkLen, if_pos h1]
  exact Rd.step (x := [a, b]) (r := r) (by simp) (gap0 hd.2.2.1 hd.2.2.2) e hv h
/-- Digits. -/
theorem Rd.digits {x r : By} {T : List Co} {ty b : Int} (hx : x ≠ []) (ha : ∀ c ∈ x, dgt c = true) (hr : End r) (hv : V 3 x = (ty, b, 0)) (h : Rd words V r T) : Rd words V (x ++ r) ((3, x, ty, b) :: T) := by
  cases x with
  | nil => exact absurd rfl hx
  | cons c r' =>
    obtain ⟨f1, f2, _⟩ := dgt_f (ha c (by simp))
    have hne : ∀ d, r[0]? = some d → dgt d = false ∧ d ≠ 120 ∧ d ≠ 46 := fun d hd => by
      rcases enB_c (hr d hd) with rfl | rfl | rfl | rfl <;> decide
    have hrun := run_stop dgt (c :: r') r ha (fun d hd => (hne d hd).1)
    refine Rd.step (by simp) (by rw [List.cons_append]; exact gap0 f1 f2) ?_ hv h
    rw [List.cons_append, kind_cons, if_pos (ha c (by simp)), ← List.cons_append, numLen, hrun]
    rw [if_neg, if_neg]
    · rintro ⟨hc, _⟩
      rw [List.getElem?_append_right (Nat.le_refl _), Nat.sub_self] at hc
      exact (hne _ hc).2.2 rfl
    · intro e
      cases r' with
      | nil =>
        simp only [List.cons_append, List.nil_append, List.take_succ_cons, List.cons.injEq] at e
        cases r with
        | nil => simp at e
        | cons d r => simp at e; exact (hne d (by simp)).2.1 e.2
      | cons d r' =>
        simp only [List.cons_append, List.take_succ_cons, List.take_zero, List.cons.injEq] at e
        have := ha d (by simp)
        rw [e.2.1] at this
        revert this; decide
/-- A float, as its text is. -/
theorem Rd.hex {z r : By} {T : List Co} {ty b : Int} (ha : ∀ c ∈ z, hxB c = true) (hr : End r) (hv : V 4 (48 :: 120 :: z) = (ty, b, 0)) (h : Rd words V r T) : Rd words V ((48 :: 120 :: z) ++ r) ((4, 48 :: 120 :: z, ty, b) :: T) := by
  have hne : ∀ d, r[0]? = some d → hxB d = false := fun d hd => by
    rcases enB_c (hr d hd) with rfl | rfl | rfl | rfl <;> decide
  have hrun := run_stop hxB z r ha hne
  refine Rd.step (by simp) (gap0 (by decide) (by decide)) ?_ hv h
  rw [List.cons_append, kind_cons, if_pos (by decide), numLen, if_pos (by simp)]
  simp only [List.cons_append, List.drop_succ_cons, List.drop_zero, hrun, List.length_cons]
  rw [Nat.add_comm]
end
end Pz
end Go.Proofs.YtpkaekokkhecmaaGreatDoor
