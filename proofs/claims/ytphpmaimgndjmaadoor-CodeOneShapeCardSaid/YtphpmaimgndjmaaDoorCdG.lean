/- Types of values: allOfValues, rightSig; the first instruction that is not right. -/
import Derived.Test.YtphpmaimgndjmaaDoorCdF
namespace Go.Proofs.YtphpmaimgndjmaaDoor.Cd
open Go.RowKit Ty
set_option linter.unusedSimpArgs false
set_option linter.unusedVariables false

theorem ofvals_any (t : Int) (w : World) : Calls Tryd.prog 50 #[ci t] w fun e w' => e = .returned (.bool (valued t)) ∧ w' = w := by
  have key : valued t = (decide (1 ≤ t) && decide (t ≤ 3)) := by
    rw [Bool.eq_iff_iff, valued_iff]
    simp
    omega
  rw [key]
  by_cases h1 : 1 ≤ t
  · have h1b : decide (1 ≤ t) = true := by simpa using h1
    go_enter Tryd.func50, Tryd.ntmps50
    go_wp2
    all_goals
      go_ret
      refine ⟨ret_bl ?_, rfl⟩
      simp_all
  · have h1b : decide (1 ≤ t) = false := by simpa using h1
    rw [h1b]
    go_enter Tryd.func50, Tryd.ntmps50
    go_wp2
    all_goals
      go_ret
      exact ⟨rfl, rfl⟩
theorem notof_any (t : Int) (w : World) : Calls Tryd.prog 49 #[ci t] w fun e w' => e = .returned (.bool (!valued t)) ∧ w' = w := by
  have kv := fun w => ofvals_any t w
  generalize valued t = v at kv ⊢
  go_enter Tryd.func49, Tryd.ntmps49
  go_wp2_with (go_at_call 50; refine (kv _).mono ?_; rintro e w1 ⟨rfl, rfl⟩)
  go_ret
  exact ⟨rfl, rfl⟩
theorem any_not (l : List Int) : l.any (fun t => !valued t) = !l.all valued := by
  induction l with
  | nil => rfl
  | cons x r ih => simp [ih, Bool.not_and]
set_option maxRecDepth 20000 in
theorem allof_any (ao : Option Addr) (n cap : Nat) (l : List Int) (w : World) (hn : n = l.length) (h : InL w ao cap l) :
    Calls Tryd.prog 37 #[.slice ao n cap] w fun e w' => e = .returned (.bool (l.all valued)) ∧ Fr (fun _ => False) w w' := by
  have kc := cfuncZA 49 #[] (fun _ _ => rfl) ao n cap l (fun t => !valued t) (!l.all valued) w hn.symm (by rw [hn]; exact h.1) (by have := h.2.1; simpa [maxLen] using this) h.2.2.2
    (fun W _ x _ => (notof_any x W).mono (fun e w' g => ⟨g.1, by rw [g.2]; exact Fr.refl _ _⟩)) (any_not l)
  generalize l.all valued = r at kc ⊢
  clear hn h
  go_enter Tryd.func37, Tryd.ntmps37
  go_wp2_with (go_at_call 48; refine kc.mono ?_; rintro e w1 ⟨rfl, f1⟩)
  go_ret
  exact ⟨ret_bl (by simp), f1⟩
/-- A signature in memory. -/
def SgI (w : World) (s : Sg) (v : Value) : Prop := ∃ ao cap, v = .agg #[.slice ao s.ps.length cap, ci s.res] ∧ InL w ao cap s.ps
set_option maxRecDepth 20000 in
set_option maxHeartbeats 1000000 in
theorem rsig_any (s : Sg) (v : Value) (w : World) (h : SgI w s v) : Calls Tryd.prog 38 #[v] w fun e w' => e = .returned (.bool (sgS s)) ∧ Fr (fun _ => False) w w' := by
  obtain ⟨ao, cap, rfl, hl⟩ := h
  obtain ⟨ps, res⟩ := s
  simp only [] at hl ⊢
  obtain ⟨n, hn⟩ : ∃ n, n = ps.length := ⟨_, rfl⟩
  rw [← hn]
  have ka : Calls Tryd.prog 37 #[.slice ao n cap] (w.alloc (.cells #[.slice ao n cap, ci res] 32 (0, 0))) fun e w' => e = .returned (.bool (ps.all valued)) ∧ Fr (fun _ => False) (w.alloc (.cells #[.slice ao n cap, ci res] 32 (0, 0))) w' := allof_any ao n cap ps _ hn (hl.keep (Fr.alloc _ _ _))
  have kv := fun w => ofvals_any res w
  have es : sgS ⟨ps, res⟩ = (ps.all valued && (res == 0 || valued res)) := rfl
  rw [es]
  clear es hn hl
  generalize ps.all valued = r at ka ⊢
  generalize valued res = rv at kv ⊢
  by_cases h0 : res = 0
  · subst h0
    cases r
    all_goals
      go_enter Tryd.func38, Tryd.ntmps38
      go_wp2_with (first
        | (go_at_call 37; refine ka.mono ?_; rintro e w1 ⟨rfl, f1⟩
           have hb := f1.heap (alloc_new _ _) (fun f => f)
           have c1 := cell_of_row _ _ 1 _ _ _ hb
           clear hb))
      go_ret
      exact ⟨rfl, (Fr.alloc _ _ _).same f1⟩
  · have h0b : (res == 0) = false := by simp [h0]
    rw [h0b]
    clear h0
    cases r
    all_goals
      go_enter Tryd.func38, Tryd.ntmps38
      go_wp2_with (first
        | (go_at_call 37; refine ka.mono ?_; rintro e w1 ⟨rfl, f1⟩
           have hb := f1.heap (alloc_new _ _) (fun f => f)
           have c1 := cell_of_row _ _ 1 _ _ _ hb
           clear hb)
        | (go_at_call 50; refine (kv _).mono ?_; rintro e w2 ⟨rfl, rfl⟩))
      go_ret
      exact ⟨ret_bl (by simp), (Fr.alloc _ _ _).same f1⟩
set_option maxRecDepth 20000 in
theorem wrong_any (i : In) (hb : U64 i.b) (w : World) : Calls Tryd.prog 27 #[inV i] w fun e w' => e = .returned (.bool (!rightS i)) ∧ Fr (fun _ => False) w w' := by
  have kr := fun w => right_any i hb w
  generalize rightS i = r at kr ⊢
  obtain ⟨op, n, t, b⟩ := i
  go_enter Tryd.func27, Tryd.ntmps27
  go_wp2_with (go_at_call 12; refine (kr _).mono ?_; rintro e w1 ⟨rfl, f1⟩)
  go_ret
  exact ⟨rfl, (Fr.alloc _ _ _).same f1⟩
set_option maxRecDepth 20000 in
/-- The first instruction that is not right. -/
theorem firstbad_any (ao : Option Addr) (n cap : Nat) (l : List In) (w : World) (hn : n = l.length) (h : IL w ao cap l) (hok : ∀ i ∈ l, U64 i.b) :
    Calls Tryd.prog 28 #[.slice ao n cap, .func (.func 27) #[] #[]] w fun e w' => e = .returned (ci (idxP (fun i => !rightS i) l 0)) ∧ Fr (fun _ => False) w w' :=
  ifuncIA 27 #[] (fun _ _ => rfl) ao n cap l (fun i => !rightS i) _ w hn.symm (by rw [hn]; exact h.1) (by have := h.2.1; simpa [maxLen] using this) h.2.2.2 (fun W _ x hx => wrong_any x (hok x hx) W) rfl
end Go.Proofs.YtphpmaimgndjmaaDoor.Cd
