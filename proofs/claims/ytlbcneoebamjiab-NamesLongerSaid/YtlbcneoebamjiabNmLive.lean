/- What must come at any rate. -/
import Derived.Test.YtlbcneoebamjiabNmSplit2
import Derived.Test.YtlbcneoebamjiabNmCmp
namespace Go.Proofs.Ytlbcneoebamjiab
open Go.RowKit Go.Sort
set_option linter.unusedSimpArgs false
set_option linter.unusedVariables false

/-- A list that is laid by its words. -/
theorem Tn.lit (w : World) (l : List Str) (hl : l.length ≤ 9223372036854775807) : Tn (w.alloc (.cells (l.map encStr).toArray 9)) w.heap.size (.slice (some ⟨w.heap.size, 0, none⟩) l.length l.length) l := by
  refine ⟨_, l.length, rfl, Nat.le_refl _, hl, (fun h => by cases h), Or.inr ⟨w.heap.size, 0, rfl, Nat.le_refl _, by simp, fun j hj => ?_⟩⟩
  have hb := alloc_new w (.cells (l.map encStr).toArray 9)
  have hj' : j < l.length := by simpa using hj
  constructor
  · rw [Nat.zero_add, cell_of_row _ _ _ _ _ _ hb, getElem!_pos _ j hj]
    simp [hj']
  · exact frozen_of_row hb _

theorem setS_bab : setS [[98], [97], [98]] = [[97], [98]] :=
  (setS_ss _).ext (by unfold SS; decide) (fun x => by rw [mem_setS]; simp only [List.mem_cons, List.not_mem_nil, or_false]; by_cases h1 : x = [98] <;> by_cases h2 : x = [97] <;> simp [h1, h2])

set_option maxHeartbeats 800000 in
set_option maxRecDepth 20000 in
theorem live_any (w : World) : Calls Try.prog 5 #[] w fun e w' => e = .returned (.bool true) ∧ Fr (fun _ => False) w w' := by
  have ks := split_any [109, 46, 102] ([109], [102], 0) (by decide) (by decide)
  have k1 := right_any [95, 57] 0 (by decide) (by decide)
  have k2 := right_any [119, 104, 105, 108, 101] 12 (by decide) (by decide)
  have kc := cmp_any [98] [97, 98] 1 (by decide)
  have kset : ∀ w, Calls Try.prog 11 #[.slice (some ⟨w.heap.size, 0, none⟩) 3 3] (w.alloc (.cells #[.string ⟨#[98]⟩, .string ⟨#[97]⟩, .string ⟨#[98]⟩] 9)) fun e w' => ∃ v', e = .returned v' ∧ Tl w' v' [[97], [98]] ∧ Fr (fun _ => False) w w' := fun w => by
    refine (set_any _ [[98], [97], [98]] _ (Tn.lit w [[98], [97], [98]] (by decide)).tl (by decide)).mono ?_
    rintro e w' ⟨v', rfl, ht, hf⟩
    rw [setS_bab] at ht
    exact ⟨v', rfl, ht.tl, (Fr.alloc _ _ _).same hf⟩
  have kt : ∀ (w : World) (v : Value), Tl w v [[97], [98]] → Calls Try.prog 10 #[v, .slice (some ⟨w.heap.size, 0, none⟩) 2 2] (w.alloc (.cells #[.string ⟨#[97]⟩, .string ⟨#[98]⟩] 9)) fun e w' => e = .returned (.bool true) ∧ Fr (fun _ => False) w w' := fun w v hv => by
    refine (texts_is v _ _ _ _ (hv.later (Fr.alloc _ _ _)) (Tn.lit w [[97], [98]] (by decide)).tl true (by decide)).mono ?_
    rintro e w' ⟨rfl, hf⟩
    exact ⟨rfl, (Fr.alloc _ _ _).same hf⟩
  have kw := words_any
  go_enter Try.func5, Try.ntmps5
  go_wp2_with (first
    | (go_at_call 9; refine (ks _).mono ?_; rintro e w1 ⟨rfl, hf1⟩)
    | fail)
  refine (k1 _).mono ?_
  rintro e w2 ⟨rfl, rfl⟩
  go_wp2_with fail
  refine (k2 _).mono ?_
  rintro e w3 ⟨rfl, rfl⟩
  go_wp2_with (first
    | (go_at_call 6; refine (kc _).mono ?_; rintro e w4 ⟨rfl, rfl⟩)
    | (go_at_call 11; refine (kset _).mono ?_; rintro e w5 ⟨v5, rfl, ht5, hf5⟩)
    | (go_at_call 10; refine (kt _ _ ht5).mono ?_; rintro e w6 ⟨rfl, hf6⟩)
    | (go_at_call 12; refine (kw _).mono ?_; rintro e w7 ⟨rfl, rfl⟩))
  go_ret
  exact ⟨rfl, ((hf1.same hf5).same hf6).same (Fr.alloc _ _ _)⟩
end Go.Proofs.Ytlbcneoebamjiab
