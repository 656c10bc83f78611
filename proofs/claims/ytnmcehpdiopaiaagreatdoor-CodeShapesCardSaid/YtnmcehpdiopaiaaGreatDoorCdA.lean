/- Instructions that are right, their size: the program's and the document's. -/
import Derived.Test.YtnmcehpdiopaiaaGreatDoorCdR
namespace Go.Proofs.YtnmcehpdiopaiaaGreatDoor.Cd
open Go.RowKit Ty
set_option linter.unusedSimpArgs false
set_option linter.unusedVariables false

abbrev inV (i : In) : Value := .agg #[ci i.op, ci i.n, ci i.t, .int .u64 i.b]
theorem row_is (op : Int) (w : World) : Calls Tryz.prog 31 #[ci op] w fun e w' => e = .returned (.tuple #[.agg #[ct (nmR op), ci (byR op), ci (lo op), ci (hi op), ci (nuR op), ci (taR op), ci (puR op), ci (trR op), .bool (enR op)], .bool (known op)]) ∧ Fr (fun _ => False) w w' := row_any op w
theorem box4 {w : World} {b : Nat} {x0 x1 x2 x3 : Value} {t : TypeId} (hb : w.heap[b]? = some (.cells #[x0, x1, x2, x3] t (0, 0))) :
    w.cell? ⟨b, 0, none⟩ = some x0 ∧ w.cell? ⟨b, 1, none⟩ = some x1 ∧ w.cell? ⟨b, 2, none⟩ = some x2 ∧ w.cell? ⟨b, 3, none⟩ = some x3 :=
  ⟨cell_of_row _ _ 0 _ _ _ hb, cell_of_row _ _ 1 _ _ _ hb, cell_of_row _ _ 2 _ _ _ hb, cell_of_row _ _ 3 _ _ _ hb⟩
theorem box4_fr {w w1 : World} {x0 x1 x2 x3 : Value} {t : TypeId} (f : Fr (fun _ => False) (w.alloc (.cells #[x0, x1, x2, x3] t (0, 0))) w1) :
    w1.cell? ⟨w.heap.size, 0, none⟩ = some x0 ∧ w1.cell? ⟨w.heap.size, 1, none⟩ = some x1 ∧ w1.cell? ⟨w.heap.size, 2, none⟩ = some x2 ∧ w1.cell? ⟨w.heap.size, 3, none⟩ = some x3 :=
  box4 (f.heap (alloc_new _ _) (fun f => f))
set_option maxRecDepth 20000 in
set_option maxHeartbeats 1000000 in
theorem right_any (i : In) (hb : U64 i.b) (w : World) : Calls Tryz.prog 23 #[inV i] w fun e w' => e = .returned (.bool (rightS i)) ∧ Fr (fun _ => False) w w' := by
  obtain ⟨op, n, t, b⟩ := i
  have kr := fun w => row_is op w
  have kv := fun w => rightv_any t b hb w
  have hz : t = 0 ∧ b = 0 → rightV t b = false := by rintro ⟨rfl, rfl⟩; rfl
  unfold rightS
  simp only [] at hb ⊢
  generalize nmR op = nm at kr
  generalize byR op = by' at kr
  generalize lo op = l at kr ⊢
  generalize hi op = h at kr ⊢
  generalize nuR op = nu at kr
  generalize taR op = ta at kr
  generalize puR op = pu at kr
  generalize trR op = tr at kr
  generalize enR op = en at kr
  generalize known op = kn at kr ⊢
  generalize rightV t b = rv at kv hz ⊢
  have hv : (t = 0 ∧ b = 0) ∨ (t = 0 ∧ (b == 0) = false) ∨ (t == 0) = false := by
    by_cases h1 : t = 0
    · by_cases h2 : b = 0
      · exact Or.inl ⟨h1, h2⟩
      · exact Or.inr (Or.inl ⟨h1, by simp [h2]⟩)
    · exact Or.inr (Or.inr (by simp [h1]))
  by_cases h1 : op = 1
  · subst h1
    rw [if_pos rfl]
    clear hz
    rcases hv with ⟨rfl, rfl⟩ | ⟨rfl, h0⟩ | h0 <;> (cases kn <;> cases rv)
    all_goals
      go_enter Tryz.func23, Tryz.ntmps23
      go_wp2_with (first
        | (go_at_call 31; refine (kr _).mono ?_; rintro e w1 ⟨rfl, f1⟩; obtain ⟨c0, c1, c2, c3⟩ := box4_fr (f1.same (Fr.alloc _ w1 (.cells #[ct nm, ci by', ci l, ci h, ci nu, ci ta, ci pu, ci tr, .bool en] 92 (0, 0)))))
        | (go_at_call 36; refine (kv _).mono ?_; rintro e w2 ⟨rfl, f2⟩
           obtain ⟨c0, c1, c2, c3⟩ := box4_fr ((f1.same (Fr.alloc _ w1 (.cells #[ct nm, ci by', ci l, ci h, ci nu, ci ta, ci pu, ci tr, .bool en] 92 (0, 0)))).same f2)
           have hrw := f2.heap (alloc_new w1 (.cells #[ct nm, ci by', ci l, ci h, ci nu, ci ta, ci pu, ci tr, .bool en] 92 (0, 0))) (fun f => f)
           have r2 := cell_of_row _ _ 2 _ _ _ hrw
           have r3 := cell_of_row _ _ 3 _ _ _ hrw
           clear hrw))
    all_goals
      go_ret
      refine ⟨ret_bl ?_, ((Fr.alloc _ _ _).same f1).same ((Fr.alloc _ _ _).same f2)⟩
      first
        | rfl
        | (simp_all; done)
        | (simp_all; intros; omega)
  · rw [if_neg h1]
    have h1b : (op == 1) = false := by simp [h1]
    clear hz h1
    have hq : (t == 0 && b == 0) = true ↔ (t = 0 ∧ b = 0) := by simp
    rcases hv with ⟨rfl, rfl⟩ | ⟨rfl, h0⟩ | h0 <;> cases kn
    all_goals
      clear hq
      go_enter Tryz.func23, Tryz.ntmps23
      go_wp2_with (first
        | (go_at_call 31; refine (kr _).mono ?_; rintro e w1 ⟨rfl, f1⟩; obtain ⟨c0, c1, c2, c3⟩ := box4_fr (f1.same (Fr.alloc _ w1 (.cells #[ct nm, ci by', ci l, ci h, ci nu, ci ta, ci pu, ci tr, .bool en] 92 (0, 0))))))
    all_goals
      go_ret
      refine ⟨ret_bl ?_, ((Fr.alloc _ _ _).same f1).same (Fr.alloc _ _ _)⟩
      first
        | rfl
        | (simp_all; done)
        | (simp_all; intros; omega)
end Go.Proofs.YtnmcehpdiopaiaaGreatDoor.Cd
