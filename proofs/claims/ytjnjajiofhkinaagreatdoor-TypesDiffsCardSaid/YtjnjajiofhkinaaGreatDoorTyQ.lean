/- Plain: where two interfaces part. -/
import Derived.Test.YtjnjajiofhkinaaGreatDoorTyG4
import Derived.Test.YtjnjajiofhkinaaGreatDoorTyH
import Derived.Test.YtjnjajiofhkinaaGreatDoorTyH2
namespace Go.Proofs.YtjnjajiofhkinaaGreatDoor.Ty
open Go.RowKit
set_option linter.unusedSimpArgs false
set_option linter.unusedVariables false

theorem diffS_self (l : List It) : diffS l l = [] := by
  refine List.eq_nil_iff_forall_not_mem.2 fun x hx => ?_
  exact (mem_diffS.1 hx) rfl
theorem diffS_comm (l1 l2 : List It) : diffS l2 l1 = diffS l1 l2 :=
  U.SS.ext (U.setS_ss _) (U.setS_ss _) fun x => by
    show x ∈ diffS l2 l1 ↔ x ∈ diffS l1 l2
    rw [mem_diffS, mem_diffS]
    exact ⟨fun h e => h e.symm, fun h e => h e.symm⟩
/-- In order of their names, each once, all behind a name. -/
def UpI : Bs → List It → Prop
  | _, [] => True
  | a, i :: r => a < i.name ∧ UpI i.name r
theorem rightL_up : ∀ (a : Bs) (l : List It), rightL a l = 0 → UpI a l
  | _, [], _ => trivial
  | a, i :: r, h => by
    unfold rightL at h
    by_cases h1 : rightI i = 0
    · rw [if_neg (by simp [h1])] at h
      by_cases h2 : i.name = a
      · rw [if_pos h2] at h; cases h
      · rw [if_neg h2] at h
        by_cases h3 : i.name < a
        · rw [if_pos h3] at h; cases h
        · rw [if_neg h3] at h
          refine ⟨?_, rightL_up _ _ h⟩
          rcases Std.lt_trichotomy i.name a with q | q | q
          · exact absurd q h3
          · exact absurd q h2
          · exact q
    · rw [if_pos h1] at h
      exact absurd h h1
theorem UpI.above : ∀ {a : Bs} {l : List It}, UpI a l → ∀ i ∈ l, a < i.name
  | _, _ :: _, h, i, hi => by
    rcases List.mem_cons.1 hi with rfl | hi
    · exact h.1
    · exact Std.lt_trans h.1 (UpI.above h.2 i hi)
theorem firstI_none {a : Bs} {l : List It} (h : UpI a l) {x : Bs} (hx : ¬ a < x) : firstI l x = none := by
  unfold firstI
  rw [List.find?_eq_none]
  intro i hi e
  simp only [beq_iff_eq] at e
  exact hx (e ▸ UpI.above h i hi)
theorem UpI.ext : ∀ {a : Bs} {l1 l2 : List It}, UpI a l1 → UpI a l2 → (∀ x, firstI l1 x = firstI l2 x) → l1 = l2
  | _, [], [], _, _, _ => rfl
  | _, [], j :: r2, _, _, h => by
    have := h j.name
    rw [firstI_cons, if_pos rfl] at this
    cases this
  | _, i :: r1, [], _, _, h => by
    have := h i.name
    rw [firstI_cons, if_pos rfl] at this
    cases this
  | a, i :: r1, j :: r2, h1, h2, h => by
    have e : i.name = j.name := by
      rcases Std.lt_trichotomy i.name j.name with q | q | q
      · have := h i.name
        rw [firstI_cons, if_pos rfl, firstI_cons, if_neg (fun e => Std.lt_irrefl (e ▸ q)), firstI_none h2.2 (fun g => Std.lt_irrefl (Std.lt_trans q g))] at this
        cases this
      · exact q
      · have := h j.name
        rw [firstI_cons, if_neg (fun e => Std.lt_irrefl (e ▸ q)), firstI_cons, if_pos rfl, firstI_none h1.2 (fun g => Std.lt_irrefl (Std.lt_trans q g))] at this
        cases this
    have ei : i = j := by
      have := h i.name
      rw [firstI_cons, if_pos rfl, firstI_cons, if_pos e.symm] at this
      exact Option.some.inj this
    subst ei
    refine congrArg (i :: ·) (UpI.ext h1.2 h2.2 fun x => ?_)
    by_cases hx : i.name = x
    · subst hx
      rw [firstI_none h1.2 Std.lt_irrefl, firstI_none h2.2 Std.lt_irrefl]
    · have := h x
      rw [firstI_cons, firstI_cons, if_neg hx, if_neg hx] at this
      exact this
theorem rightF_up {f : Fc} (h : rightF f = 0) : UpI [] f.items := by
  unfold rightF at h
  by_cases h1 : N.rightS f.name = 0
  · rw [if_neg (by simp [h1])] at h
    by_cases h2 : 64 < f.items.length
    · rw [if_pos h2] at h; cases h
    · rw [if_neg h2] at h
      exact rightL_up _ _ h
  · rw [if_pos h1] at h
    exact absurd h h1
theorem diff_nil {f g : Fc} (hf : rightF f = 0) (hg : rightF g = 0) (hn : f.name = g.name) : decide ((diffS f.items g.items).length = 0) = decide (f = g) := by
  rw [Bool.eq_iff_iff, decide_eq_true_eq, decide_eq_true_eq]
  constructor
  · intro h
    have h0 : diffS f.items g.items = [] := List.eq_nil_of_length_eq_zero h
    have : f.items = g.items := UpI.ext (rightF_up hf) (rightF_up hg) fun x => by
      by_cases hx : firstI f.items x = firstI g.items x
      · exact hx
      · have := mem_diffS.2 hx
        rw [h0] at this
        cases this
    obtain ⟨a, b⟩ := f
    obtain ⟨c, d⟩ := g
    simp only at hn this
    rw [hn, this]
  · intro h
    rw [h, diffS_self]
    rfl
end Go.Proofs.YtjnjajiofhkinaaGreatDoor.Ty
