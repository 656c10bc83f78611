/- How many bytes an instruction has; what the document says of an instruction by itself. -/
import Derived.Test.YtooggbhplmmphaaGreatDoorCdA
namespace Go.Proofs.YtooggbhplmmphaaGreatDoor.Cd
open Go.RowKit Ty
set_option linter.unusedSimpArgs false
set_option linter.unusedVariables false

theorem byR_le (op : Int) : 0 ≤ byR op ∧ byR op ≤ 9 := by
  unfold byR wd
  repeat' split
  all_goals omega
set_option maxRecDepth 20000 in
set_option maxHeartbeats 1000000 in
theorem size_any (i : In) (w : World) : Calls Tryz.prog 27 #[inV i] w fun e w' => e = .returned (ci (sizeS i.op)) ∧ Fr (fun _ => False) w w' := by
  obtain ⟨op, n, t, b⟩ := i
  have kr := fun w => row_is op w
  have hby := byR_le op
  have hs : sizeS op = if known op then 1 + byR op else 0 := by
    unfold sizeS byR
    split
    · split <;> simp_all
    · rfl
  simp only [] at *
  rw [hs]
  clear hs
  generalize nmR op = nm at kr
  generalize byR op = by' at kr hby ⊢
  generalize lo op = l at kr
  generalize hi op = h at kr
  generalize nuR op = nu at kr
  generalize taR op = ta at kr
  generalize puR op = pu at kr
  generalize trR op = tr at kr
  generalize enR op = en at kr
  generalize known op = kn at kr ⊢
  cases kn
  all_goals
    go_enter Tryz.func27, Tryz.ntmps27
    go_wp2_with (first
      | (go_at_call 24; refine (kr _).mono ?_; rintro e w1 ⟨rfl, f1⟩))
    go_ret
    exact ⟨by rfl, ((Fr.alloc _ _ _).same f1).same (Fr.alloc _ _ _)⟩
set_option maxRecDepth 20000 in
theorem rwidth_any (op : Int) (w : World) : Calls Tryz.prog 29 #[ci op] w fun e w' => e = .returned (ci (wd op : Int)) ∧ w' = w := by
  have key : (op = 1 ∨ op = 2 ∨ op = 3 ∨ op = 4 ∨ op = 5 ∨ op = 6 ∨ op = 7 ∨ op = 8 ∨ op = 9 ∨ op = 10 ∨ op = 15) ∨ (wd op = 0 ∧ (op == 2) = false ∧ (op == 3) = false ∧ (op == 6) = false ∧ (op == 7) = false ∧ (op == 4) = false ∧ (op == 5) = false ∧ (op == 8) = false ∧ (op == 9) = false ∧ (op == 10) = false ∧ (op == 15) = false) := by
    by_cases h : op = 2 ∨ op = 3 ∨ op = 6 ∨ op = 7 ∨ op = 4 ∨ op = 5 ∨ op = 8 ∨ op = 9 ∨ op = 10 ∨ op = 15
    · left; omega
    · right
      refine ⟨by unfold wd; rw [if_neg (by omega), if_neg (by omega)], ?_⟩
      simp only [beq_eq_false_iff_ne]
      omega
  rcases key with key | ⟨h0, k2, k3, k6, k7, k4, k5, k8, k9, k10, k15⟩
  · rcases key with rfl | rfl | rfl | rfl | rfl | rfl | rfl | rfl | rfl | rfl | rfl
    all_goals
      go_enter Tryz.func29, Tryz.ntmps29
      go_wp2
      go_ret
      exact ⟨rfl, rfl⟩
  · rw [h0]
    clear h0
    go_enter Tryz.func29, Tryz.ntmps29
    go_wp2
    go_ret
    exact ⟨rfl, rfl⟩
end Go.Proofs.YtooggbhplmmphaaGreatDoor.Cd
