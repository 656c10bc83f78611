/- What must come at any rate. -/
import Derived.Test.YtjnjajiofhkinaaGreatDoorTyE
import Derived.Test.YtjnjajiofhkinaaGreatDoorTyB2
namespace Go.Proofs.YtjnjajiofhkinaaGreatDoor.Ty
open Go.RowKit
set_option linter.unusedSimpArgs false
set_option linter.unusedVariables false

theorem live_text (w : World) (ht : F.Tab w) : Calls Tryz.prog 39 #[.agg #[ci 3, ct [102], ci 0, .int .u64 0, .slice (some ⟨w.heap.size, 0, none⟩) 2 2]] (w.alloc (.cells #[ci 1, ci 3] 3)) fun e w' =>
    e = .returned (ct [102, 110, 32, 102, 40, 105, 110, 116, 44, 32, 98, 111, 111, 108, 41]) ∧ Fr (fun _ => False) w w' := by
  have f0 := Fr.alloc (fun _ => False) w (.cells #[ci 1, ci 3] 3)
  have hi : ItI (w.alloc (.cells #[ci 1, ci 3] 3)) ⟨3, [102], 0, 0, [1, 3]⟩ (.agg #[ci 3, ct [102], ci 0, .int .u64 0, .slice (some ⟨w.heap.size, 0, none⟩) 2 2]) := by
    refine ⟨some ⟨w.heap.size, 0, none⟩, 2, rfl, by simp, by simp [maxLen], (fun h => by cases h), Or.inr ⟨_, 0, rfl, fun i x hx => ?_⟩⟩
    rw [Nat.zero_add, cell_of_row _ _ i _ _ _ (alloc_new w _)]
    match i, hx with
    | 0, hx => simp at hx; subst hx; rfl
    | 1, hx => simp at hx; subst hx; rfl
    | n + 2, hx => simp at hx
  refine (text_any _ _ _ (tab_fr ht f0) hi ⟨by simp [I64], by simp [OkN], by simp [I64], by simp [U64], fun p hp => ?_, by simp⟩ (by simp) (by simp)).mono ?_
  · simp only [List.mem_cons, List.not_mem_nil, or_false] at hp
    rcases hp with rfl | rfl <;> simp [I64]
  · rintro e w' ⟨rfl, f1⟩
    exact ⟨rfl, f0.same f1⟩
set_option maxRecDepth 20000 in
set_option maxHeartbeats 2000000 in
theorem live_any (w : World) (ht : F.Tab w) : Calls Tryz.prog 18 #[] w fun e w' => e = .returned (.bool true) ∧ Fr (fun _ => False) w w' := by
  have ku : ∀ w, Calls Tryz.prog 35 #[ci 3, ci 2] w fun e w' => e = .returned (.tuple #[ci 1, ci 0]) ∧ Fr (fun _ => False) w w' := fun w => unary_any 3 2 w
  have kb : ∀ w, Calls Tryz.prog 36 #[ci 5, ci 2, ci 2] w fun e w' => e = .returned (.tuple #[ci 0, ci 22]) ∧ Fr (fun _ => False) w w' := fun w => binary_any 5 2 2 w
  have kn : ∀ w, Calls Tryz.prog 37 #[ci 3] w fun e w' => e = .returned (ct [98, 111, 111, 108]) ∧ w' = w := fun w => name_any 3 w
  have kr : ∀ w, Calls Tryz.prog 38 #[.agg #[ci 3, .int .u64 2]] w fun e w' => e = .returned (.bool false) ∧ Fr (fun _ => False) w w' := fun w => rightv_any 3 2 ⟨by omega, by omega⟩ w
  have kt := fun (w1 : World) (f : Fr (fun _ => False) w w1) => live_text w1 (tab_fr ht f)
  go_enter Tryz.func18, Tryz.ntmps18
  go_wp2_with (first
    | (go_at_call 35; refine (ku _).mono ?_; rintro e w1 ⟨rfl, f1⟩)
    | (go_at_call 36; refine (kb _).mono ?_; rintro e w2 ⟨rfl, f2⟩)
    | (go_at_call 37; refine (kn _).mono ?_; rintro e w3 ⟨rfl, rfl⟩)
    | (go_at_call 38; refine (kr _).mono ?_; rintro e w4 ⟨rfl, f4⟩)
    | (go_at_call 39; refine (kt _ ((f1.same f2).same f4)).mono ?_; rintro e w5 ⟨rfl, f5⟩))
  go_ret
  exact ⟨rfl, ((f1.same f2).same f4).same f5⟩
end Go.Proofs.YtjnjajiofhkinaaGreatDoor.Ty
