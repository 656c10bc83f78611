/- TreeParts, plain; append of texts as a step of a region whose order is drawn. -/
import Derived.Test.YtddedomocnpdjaaGreatDoorTrFw
import Derived.Test.YtddedomocnpdjaaGreatDoorTrU7
import Derived.Test.YtddedomocnpdjaaGreatDoorTrN
import Derived.Test.YtddedomocnpdjaaGreatDoorTrIn
namespace Go.Proofs.YtddedomocnpdjaaGreatDoor.U
open Go.RowKit Go.Sort
set_option linter.unusedSimpArgs false
set_option linter.unusedVariables false
theorem setS_app_len (a b : List Str) : (setS (a ++ b)).length ≤ (setS a).length + (setS b).length := by
  have hs := setS_ss (a ++ b)
  have h1 : (setS (a ++ b)).filter (fun x => decide (x ∈ a)) = setS a := by
    refine SS.ext (hs.filter _) (setS_ss a) fun x => ?_
    rw [List.mem_filter, mem_setS, mem_setS, List.mem_append]
    simp
    exact fun h => Or.inl h
  have h2 : (setS (a ++ b)).filter (fun x => !decide (x ∈ a)) = (setS b).filter (fun x => !decide (x ∈ a)) := by
    refine SS.ext (hs.filter _) ((setS_ss b).filter _) fun x => ?_
    rw [List.mem_filter, List.mem_filter, mem_setS, mem_setS, List.mem_append]
    constructor
    · rintro ⟨h | h, h3⟩
      · simp [h] at h3
      · exact ⟨h, h3⟩
    · rintro ⟨h, h3⟩
      exact ⟨Or.inr h, h3⟩
  have h3 : (setS (a ++ b)).length = ((setS (a ++ b)).filter (fun x => decide (x ∈ a))).length + ((setS (a ++ b)).filter (fun x => !decide (x ∈ a))).length := by
    induction setS (a ++ b) with
    | nil => rfl
    | cons x r ih =>
      by_cases hx : x ∈ a
      · simp [hx, ih]; omega
      · simp [hx, ih]; omega
  rw [h3, h1, h2]
  have := List.length_filter_le (fun x => !decide (x ∈ a)) (setS b)
  omega
theorem step_app {w : World} {ops : Array Oper} {o : Oper} {a : Act} {K : Act → World → Prop} {Q : Exit → Act → World → Prop} {E : Prop} (hgd : o.guard = none) (s x : Operand)
    (ho : o.op = .call { callee := .builtin .append, args := #[s, x], argTypes := #[22, 22] }) (B : Nat) (v xv : Value) (l m : List Str) (hs : a.eval s = v) (hv : To w B v l) (hx : a.eval x = xv) (hxs : Tl w xv m) (hB : B ≤ w.heap.size) (hb : (l.length + m.length) * 16 ≤ 140737488355328)
    (h : ∀ v' w', To w' B v' (l ++ m) → Fr (fun k => v.ownBlock = some k) w w' → K (a.put o.dst v') w') : if Region.wanted o (yielded ops a.tmps) = true then Oper.wp Tryz.prog o a w K Q else E := by
  have hw : Region.wanted o (yielded ops a.tmps) = true := by simp [Region.wanted, hgd]
  rw [if_pos hw]
  obtain ⟨v', w', hr, h2, h3, h4⟩ := run_app w B v xv l m o.type hv hxs hB hb
  have hk := h v' w' h2 h3
  unfold Oper.wp execOp
  simp only [ho, resolve, invoke, builtin, Sem.run_bind, Sem.run_pure, Result.andThen_ok, List.map_toArray, List.map_cons, List.map_nil, hs, hx, hr]
  exact hk
end Go.Proofs.YtddedomocnpdjaaGreatDoor.U
namespace Go.Proofs.YtddedomocnpdjaaGreatDoor
open Go.RowKit Te
set_option linter.unusedSimpArgs false
set_option linter.unusedVariables false
theorem ndM_app (l : List De) (d : De) : ndM (l ++ [d]) = ndM l + ndM [d] := by simp [ndM]
theorem ndM_one (d : De) : 1 ≤ ndM [d] := by simp [ndM, ndD]; omega
theorem dM_nonneg : ∀ (l : List De) (a : Int), a ≤ l.foldl (fun acc d => max acc (dD d)) a
  | [], a => Int.le_refl _
  | d :: l, a => Int.le_trans (Int.le_max_left a (dD d)) (dM_nonneg l (max a (dD d)))
theorem dM_app (l : List De) (d : De) : dM (l ++ [d]) = max (dM l) (dM [d]) := by
  have := dM_nonneg l 0
  unfold dM at *
  rw [List.foldl_append]
  simp only [List.foldl_cons, List.foldl_nil]
  omega
theorem usM_app (l : List De) (d : De) : usM (l ++ [d]) = usM l ++ usM [d] := by simp [usM]
end Go.Proofs.YtddedomocnpdjaaGreatDoor
