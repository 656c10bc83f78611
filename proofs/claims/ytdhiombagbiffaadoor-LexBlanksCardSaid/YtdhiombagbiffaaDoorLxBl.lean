/- The law LexBlanks: blanks put in change nothing. Plain facts. -/
import Derived.Test.YtdhiombagbiffaaDoorLxSame
import Derived.Deep.QuietTactic
import Derived.BigQuiet
namespace Go.Proofs.YtdhiombagbiffaaDoor
open Go.RowKit Lx
set_option linter.unusedSimpArgs false
set_option linter.unusedVariables false

theorem gapT_more (m : By) (h : ∀ c ∈ m, c ≠ 10) (z : By) : gapM true (m ++ z) = m.length + gapM true z := by
  induction m with
  | nil => simp
  | cons c m ih =>
    rw [List.cons_append, gapM_true, if_neg (h c (by simp)), ih (fun d hd => h d (by simp [hd]))]
    simp only [List.length_cons]
    omega
/-- What is put ahead of a token. -/
def putS (what : Int) (m : By) : By := if what = 1 then [10, 9] else if what = 2 then [32, 47, 47, 32] ++ m ++ [10] else [32]
theorem put_gap (what : Int) (m : By) (h : ∀ c ∈ m, c ≠ 10) (z : By) : gap (putS what m ++ z) = (putS what m).length + gap z := by
  unfold putS
  split
  · show gapM false (10 :: 9 :: z) = _
    rw [gapM_false, if_pos (by decide), gapM_false, if_pos (by decide)]
    simp only [gap, List.length_cons, List.length_nil]
    omega
  · split
    · show gapM false (32 :: 47 :: 47 :: 32 :: (m ++ [10] ++ z)) = _
      rw [gapM_false, if_pos (by decide), gapM_false, if_neg (by decide), if_pos (by simp), gapM_true, if_neg (by decide), gapM_true, if_neg (by decide), List.append_assoc, gapT_more m h]
      show 1 + (1 + (1 + (1 + (m.length + gapM true (10 :: z))))) = _
      rw [gapM_true, if_pos rfl]
      simp only [gap, List.length_append, List.length_cons, List.length_nil]
      omega
    · show gapM false (32 :: z) = _
      rw [gapM_false, if_pos (by decide)]
      simp only [gap, List.length_cons, List.length_nil]
theorem put_head (what : Int) (m : By) : ∃ b P', putS what m = b :: P' ∧ blB b = true := by
  unfold putS
  split
  · exact ⟨10, [9], rfl, by decide⟩
  · split
    · exact ⟨32, [47, 47, 32] ++ m ++ [10], rfl, by decide⟩
    · exact ⟨32, [], rfl, by decide⟩
/-- The text with something put in. -/
def textS (l : By) (what : Int) (m : By) (at_ : Nat) : By := if what = 3 then l ++ [10, 47, 47] ++ m else l.take at_ ++ putS what m ++ l.drop at_ ++ [32]
theorem blanks_math (l m : By) (what : Int) (ts : List Tok) (i : Nat) (t : Tok) (hm : ∀ c ∈ m, c ≠ 10) (h : Toks wordsL valS (gap l) (l.drop (gap l)) ts) (hc : ts.length ≤ 1024) (hi : ts[i]? = some t) (hlen : (textS l what m t.p).length ≤ 4096) :
    t.p ≤ l.length ∧ ∃ ts', ts'.length ≤ 1024 ∧ lexS wordsL valS (textS l what m t.p) = (ts', 0, 0) ∧ ts.map Tok.core = ts'.map Tok.core := by
  have hu : l.drop (gap l) ≠ [] := by
    intro e
    rw [e] at h
    rw [toks_nil wordsL valS h] at hi
    simp at hi
  have hgl : gapM false l < l.length := by
    have h1 := gap_le l false
    rcases Nat.lt_or_ge (gapM false l) l.length with h2 | h2
    · exact h2
    · exact absurd (List.drop_eq_nil_of_le h2) hu
  have hE1 : ∀ m : Bool, gapM m [32] = ([32] : By).length := by intro m; cases m <;> decide
  obtain ⟨b0, P', hP0, hb0⟩ := put_head what m
  obtain ⟨d, hd1, hd2, hd3⟩ := toks_put wordsL valS (putS what m) [32] b0 P' hP0 hb0 (put_gap what m hm) hE1 ⟨32, [], rfl, by decide⟩ h i t hi
  rw [List.length_drop] at hd2
  have hpl : t.p ≤ l.length := by simp only [gap] at hd1 hd2; omega
  refine ⟨hpl, ?_⟩
  by_cases h3 : what = 3
  · unfold textS at hlen ⊢
    rw [if_pos h3] at hlen ⊢
    have e : l ++ [10, 47, 47] ++ m = l ++ (10 :: 47 :: 47 :: m) := by simp
    rw [e] at hlen ⊢
    have hE : ∀ mo : Bool, gapM mo (10 :: 47 :: 47 :: m) = (10 :: 47 :: 47 :: m : By).length := by
      intro mo
      have hr : gapM false (47 :: 47 :: m) = m.length + 2 := by
        rw [gapM_false, if_neg (by decide), if_pos (by simp), gapM_true, if_neg (by decide)]
        have := gapT_more m hm []
        rw [List.append_nil] at this
        rw [this]
        simp only [gapM]
        omega
      cases mo
      · rw [gapM_false, if_pos (by decide), hr]; simp only [List.length_cons]; omega
      · rw [gapM_true, if_pos rfl, hr]; simp only [List.length_cons]; omega
    have hb : ∃ c E', (10 :: 47 :: 47 :: m : By) = c :: E' ∧ blB c = true := ⟨10, 47 :: 47 :: m, rfl, by decide⟩
    have ht := toks_end wordsL valS _ hE hb h hu
    have hg : gap (l ++ (10 :: 47 :: 47 :: m)) = gap l := by
      show gapM false _ = _
      rw [gap_end _ hE hb l false, if_neg (by omega)]
    refine ⟨ts, hc, lexS_of_toks wordsL valS _ ts hlen hc ?_, rfl⟩
    rw [hg, List.drop_append_of_le_length (by simp only [gap]; omega)]
    exact ht
  · unfold textS at hlen ⊢
    rw [if_neg h3] at hlen ⊢
    have ez : l.take t.p ++ putS what m ++ l.drop t.p ++ [32] = l.take (gapM false l) ++ ((l.drop (gap l)).take d ++ (putS what m ++ ((l.drop (gap l)).drop d ++ [32]))) := by
      rw [hd1, List.take_add, ← List.drop_drop]
      simp only [List.append_assoc]
    rw [ez] at hlen ⊢
    obtain ⟨z, hz⟩ : ∃ z, z = (l.drop (gap l)).take d ++ (putS what m ++ ((l.drop (gap l)).drop d ++ [32])) := ⟨_, rfl⟩
    rw [← hz] at hlen hd3 ⊢
    have hg : gap (l.take (gapM false l) ++ z) = gapM false l + gap z := gap_ahead z l false hgl
    obtain ⟨ts', h1, h2⟩ := hd3 (gapM false l + gap z)
    have hl' : ts'.length = ts.length := by have := congrArg List.length h2; simpa using this
    refine ⟨ts', by omega, lexS_of_toks wordsL valS _ ts' hlen (by omega) ?_, h2.symm⟩
    rw [hg]
    have hlt : (l.take (gapM false l)).length = gapM false l := by rw [List.length_take]; omega
    have ed : (l.take (gapM false l) ++ z).drop (gapM false l + gap z) = z.drop (gap z) := by
      conv => lhs; arg 1; rw [← hlt]
      rw [List.drop_length_add_append]
    rw [ed]
    exact h1
end Go.Proofs.YtdhiombagbiffaaDoor
