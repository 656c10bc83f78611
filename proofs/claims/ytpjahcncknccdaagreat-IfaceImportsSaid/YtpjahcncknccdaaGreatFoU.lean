/- Plain: the bits of what operators make. -/
import Derived.Test.YtpjahcncknccdaaGreatFoD
namespace Go.Proofs.YtpjahcncknccdaaGreat.Fo
open Go.RowKit Te
set_option linter.unusedSimpArgs false
set_option linter.unusedVariables false

theorem U0 : U64 0 := ⟨by omega, by omega⟩
theorem U1 : U64 1 := ⟨by omega, by omega⟩
theorem truthF_U (b : Bool) : U64 (truthF b).2 := by cases b; exact U0; exact U1
theorem wholeF_U (n e : Int) : U64 (wholeF n e).1.2 := by
  unfold wholeF
  split
  · exact uwrapU n
  · exact U0
theorem intsF_U (op a b : Int) : U64 (intsF op a b).1.2 := by
  unfold intsF
  repeat' split
  all_goals first | exact wholeF_U _ _ | exact truthF_U _
theorem fltsF_U (op a b : Int) : U64 (fltsF op a b).2 := by
  unfold fltsF
  repeat' split
  all_goals first | exact truthF_U _ | exact ⟨(F.res_U _ _ _).1, (F.res_U _ _ _).2⟩
theorem boolsF_U (op : Int) (a b : Bool) : U64 (boolsF op a b).2 := by
  unfold boolsF
  repeat' split
  all_goals exact truthF_U _
theorem binF_U (op : Int) (a b : Vl) : U64 (binF op a b).1.2 := by
  unfold binF
  repeat' split
  · exact U0
  · exact intsF_U _ _ _
  · exact fltsF_U _ _ _
  · exact boolsF_U _ _ _
theorem fromInt_U (n : Int) : U64 ((floatOfInt .f64 n : Nat) : Int) := by
  rw [F.floatOfInt_eq]
  have := (F.nan_word (decide (n < 0)) (F.Fl.rung n.natAbs 0) (F.Fl.rung_le _ _)).2
  exact ⟨this.1, this.2⟩
theorem unF_U (op : Int) (a : Vl) (h : U64 a.2) : U64 (unF op a).1.2 := by
  unfold unF
  repeat' split
  · exact U0
  · have := F.neg_U a.2 ⟨h.1, h.2⟩
    exact ⟨this.1, this.2⟩
  · exact wholeF_U _ _
  · exact truthF_U _
  · exact wholeF_U _ _
  · exact fromInt_U _
def okU (e : Ev) : Prop := ∀ v, e = .ok v → U64 v.2
theorem bd_U {a : Ev} {f : Vl → Ev} (ha : okU a) (h : ∀ v, U64 v.2 → okU (f v)) : okU (a.bd f) := by
  cases a with
  | ok v => exact h v (ha v rfl)
  | flt c => intro v e; cases e
  | trp c => intro v e; cases e
theorem trapEv_U {r : Vl × Int} (h : U64 r.1.2) : okU (trapEv r) := by
  unfold trapEv
  split
  · intro v e; cases e; exact h
  · intro v e; cases e
theorem flt_U (c : Int) : okU (.flt c) := by intro v e; cases e
theorem ok_U {v : Vl} (h : U64 v.2) : okU (.ok v) := by intro u e; cases e; exact h
theorem findC_U (l : List Con) (hok : ∀ c ∈ l, U64 c.b) (m n : Bs) : okU (findC l m n) := by
  induction l with
  | nil => exact flt_U _
  | cons c r ih =>
    unfold findC
    split
    · split
      · exact ok_U (hok c (by simp))
      · exact flt_U _
    · exact ih (fun x hx => hok x (by simp [hx]))
theorem callF_U (l : List Ev) : okU (callF l) := by
  induction l with
  | nil => exact flt_U _
  | cons e r ih =>
    unfold callF
    cases e with
    | ok v => exact ih
    | flt c => exact flt_U _
    | trp c => intro v e; cases e
theorem twoF_U (op : Int) (a b : Ev) (ha : okU a) (hb : okU b) : okU (twoF op a b) := by
  unfold twoF
  refine bd_U ha fun v hv => ?_
  split
  · exact flt_U _
  · exact ok_U hv
  · exact bd_U hb fun u hu => trapEv_U (binF_U _ _ _)
theorem getD_U {l : List Ev} (h : ∀ e ∈ l, okU e) (i : Nat) : okU (l.getD i (.flt 0)) := by
  rw [List.getD_eq_getElem?_getD]
  cases hg : l[i]? with
  | none => exact flt_U _
  | some e => exact h e (List.mem_of_getElem? hg)
theorem evN_U (l : List Con) (hok : ∀ c ∈ l, U64 c.b) (h : EH) (hh : OkE h) (ks : List Ev) (hk : ∀ e ∈ ks, okU e) : okU (evN l h ks) := by
  unfold evN
  repeat' split
  · exact findC_U l hok _ _
  · exact callF_U _
  · exact bd_U (getD_U hk 0) fun v hv => trapEv_U (unF_U _ _ hv)
  · exact twoF_U _ _ _ (getD_U hk 0) (getD_U hk 1)
  · exact ok_U ⟨hh.vb0, hh.vb1⟩
theorem evF_U (l : List Con) (hok : ∀ c ∈ l, U64 c.b) : ∀ (k : Exs), OkX k → ∀ e ∈ evF l k, okU e
  | .nil, _ => by intro e he; simp [evF] at he
  | .cons h k r, hx => by
    intro e he
    rw [evF, List.mem_cons] at he
    rcases he with rfl | he
    · exact evN_U l hok h hx.1 _ (evF_U l hok k hx.2.1)
    · exact evF_U l hok r hx.2.2 e he
theorem evX_U (l : List Con) (hok : ∀ c ∈ l, U64 c.b) (h : EH) (hh : OkE h) (k : Exs) (hk : OkX k) : okU (evX l h k) := evN_U l hok h hh _ (evF_U l hok k hk)
theorem orE0 {a b : Int} (h : orE a b = 0) : a = 0 ∧ b = 0 := by
  unfold orE at h
  split at h
  · exact ⟨by assumption, h⟩
  · exact absurd h (by assumption)
end Go.Proofs.YtpjahcncknccdaaGreat.Fo
