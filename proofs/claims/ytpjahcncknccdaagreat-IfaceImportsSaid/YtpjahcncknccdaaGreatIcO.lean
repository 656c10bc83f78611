/- Plain: an answer without an error is a value, which is right (as FoL8 has it; for seats without FoldLifts). -/
import Derived.Test.YtpjahcncknccdaaGreatFoL
namespace Go.Proofs.YtpjahcncknccdaaGreat.Fo.Ic
open Go.RowKit Te
set_option linter.unusedSimpArgs false
set_option linter.unusedVariables false

def okC (e : Ev) : Prop := e.code = 0 → ∃ v, e = .ok v
theorem flt_C {c : Int} (h : c ≠ 0) : okC (.flt c) := fun e => absurd e h
theorem bd_C {a : Ev} {f : Vl → Ev} (ha : okC a) (h : ∀ v, okC (f v)) : okC (a.bd f) := by
  cases a with
  | ok v => exact h v
  | flt c => exact fun e => by obtain ⟨v, hv⟩ := ha e; cases hv
  | trp c => exact fun e => by obtain ⟨v, hv⟩ := ha e; cases hv
theorem trapEv_C (r : Vl × Int) : okC (trapEv r) := by
  unfold trapEv
  split
  · exact fun _ => ⟨_, rfl⟩
  · rename_i h0
    intro e
    have e : errnoF r.2 = 0 := e
    unfold errnoF at e
    rw [if_neg h0] at e
    repeat' split at e
    all_goals omega
theorem findC_C (l : List Con) (m n : Bs) : okC (findC l m n) := by
  induction l with
  | nil => exact flt_C (by decide)
  | cons c r ih =>
    unfold findC
    split
    · split
      · exact fun _ => ⟨_, rfl⟩
      · exact flt_C (by decide)
    · exact ih
theorem callF_C (l : List Ev) (h : ∀ e ∈ l, okC e) : okC (callF l) := by
  induction l with
  | nil => exact flt_C (by decide)
  | cons e r ih =>
    unfold callF
    exact bd_C (h e (by simp)) fun _ => ih (fun e he => h e (by simp [he]))
theorem twoF_C (op : Int) (a b : Ev) (ha : okC a) (hb : okC b) : okC (twoF op a b) := by
  unfold twoF
  refine bd_C ha fun v => ?_
  split
  · exact flt_C (by decide)
  · exact fun _ => ⟨_, rfl⟩
  · exact bd_C hb fun u => trapEv_C _
theorem getD_C {l : List Ev} (h : ∀ e ∈ l, okC e) (i : Nat) (hi : i < l.length) : okC (l.getD i (.flt 0)) := by
  rw [List.getD_eq_getElem?_getD, List.getElem?_eq_getElem hi]
  exact h _ (List.getElem_mem hi)
theorem evF_len (l : List Con) : ∀ k : Exs, (evF l k).length = k.len
  | .nil => rfl
  | .cons h k r => by rw [evF, List.length_cons, evF_len l r]; rfl
theorem evN_C (l : List Con) (h : EH) (n : Nat) (he : errH rnS cnS h n = 0) (ks : List Ev) (hn : ks.length = n) (hk : ∀ e ∈ ks, okC e) : okC (evN l h ks) := by
  have hf : fitsE cnS h n = true := by
    have := (orE0 (show orE (if fitsE cnS h n then 0 else 1) _ = 0 from he)).1
    by_cases hf : fitsE cnS h n = true
    · exact hf
    · rw [if_neg hf] at this; cases this
  unfold evN
  split
  · exact findC_C _ _ _
  · split
    · exact callF_C _ hk
    · split
      · rename_i h6
        have : n = 1 := by
          unfold fitsE at hf
          rw [if_neg (by omega), if_neg (by omega), if_neg (by omega), if_neg (by omega), if_neg (by omega), if_pos h6] at hf
          exact (of_decide_eq_true hf).2.2.1
        exact bd_C (getD_C hk 0 (by omega)) fun v => trapEv_C _
      · split
        · rename_i h7
          have : n = 2 := by
            unfold fitsE at hf
            rw [if_neg (by omega), if_neg (by omega), if_neg (by omega), if_neg (by omega), if_neg (by omega), if_neg (by omega), if_pos h7] at hf
            exact (of_decide_eq_true hf).2.2.1
          exact twoF_C _ _ _ (getD_C hk 0 (by omega)) (getD_C hk 1 (by omega))
        · exact fun _ => ⟨_, rfl⟩
theorem evF_C (l : List Con) : ∀ (k : Exs), errL rnS cnS k = 0 → ∀ e ∈ evF l k, okC e
  | .nil, _ => by intro e he; simp [evF] at he
  | .cons h k r, hx => by
    intro e he
    have he2 := orE0 (show orE (orE (errH rnS cnS h k.len) (errL rnS cnS k)) (errL rnS cnS r) = 0 from hx)
    have he3 := orE0 he2.1
    rw [evF, List.mem_cons] at he
    rcases he with rfl | he
    · exact evN_C l h k.len he3.1 _ (evF_len l k) (evF_C l k he3.2)
    · exact evF_C l r he2.2 e he
theorem evX_C (l : List Con) (h : EH) (k : Exs) (he : errX rnS cnS h k = 0) : okC (evX l h k) := by
  have he2 := orE0 (orE0 (show orE _ _ = 0 from he)).2
  exact evN_C l h k.len he2.1 _ (evF_len l k) (evF_C l k he2.2)
end Go.Proofs.YtpjahcncknccdaaGreat.Fo.Ic
