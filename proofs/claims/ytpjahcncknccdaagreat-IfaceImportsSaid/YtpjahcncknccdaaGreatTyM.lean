/- Items and interfaces in memory. -/
import Derived.Test.YtpjahcncknccdaaGreatTyS
namespace Go.Proofs.YtpjahcncknccdaaGreat.Ty
open Go.RowKit
set_option linter.unusedSimpArgs false
set_option linter.unusedVariables false

/-- A row of ints. -/
def InL (w : World) (ao : Option Addr) (cap : Nat) (l : List Int) : Prop :=
  l.length ≤ cap ∧ cap ≤ maxLen ∧ (ao = none → cap = 0) ∧ (l = [] ∨ ∃ b off, ao = some ⟨b, off, none⟩ ∧ ∀ (i : Nat) (x : Int), l[i]? = some x → w.cell? ⟨b, off + i, none⟩ = some (ci x))
def itC (i : It) (pv : Value) : List Value := [ci i.kind, ct i.name, ci i.typ, .int .u64 i.bits, pv]
abbrev itV (i : It) (pv : Value) : Value := .agg #[ci i.kind, ct i.name, ci i.typ, .int .u64 i.bits, pv]
/-- An item. -/
def ItI (w : World) (i : It) (v : Value) : Prop := ∃ ao cap, v = itV i (.slice ao i.params.length cap) ∧ InL w ao cap i.params
/-- A row of items. -/
def ItL (w : World) (ao : Option Addr) (cap : Nat) (l : List It) : Prop :=
  l.length ≤ cap ∧ cap ≤ maxLen ∧ (ao = none → cap = 0) ∧ (l = [] ∨ ∃ b off, ao = some ⟨b, off, none⟩ ∧ ∀ (i : Nat) (x : It), l[i]? = some x →
    ∃ ap cp, InL w ap cp x.params ∧ ∀ (j : Nat) (u : Value), (itC x (.slice ap x.params.length cp))[j]? = some u → w.cell? ⟨b, off + i * 5 + j, none⟩ = some u)
/-- An interface. -/
def FcI (w : World) (f : Fc) (v : Value) : Prop := ∃ ao cap, v = .agg #[ct f.name, .slice ao f.items.length cap] ∧ ItL w ao cap f.items

theorem InL.keep {w w' : World} {ao : Option Addr} {cap : Nat} {l : List Int} (h : InL w ao cap l) (hf : Fr (fun _ => False) w w') : InL w' ao cap l := by
  obtain ⟨h1, h2, h3, h4⟩ := h
  refine ⟨h1, h2, h3, ?_⟩
  rcases h4 with h4 | ⟨b, off, rfl, h4⟩
  · exact Or.inl h4
  · exact Or.inr ⟨b, off, rfl, fun i x hx => hf.cellN (h4 i x hx)⟩
theorem ItI.keep {w w' : World} {i : It} {v : Value} (h : ItI w i v) (hf : Fr (fun _ => False) w w') : ItI w' i v := by
  obtain ⟨ao, cap, h1, h2⟩ := h
  exact ⟨ao, cap, h1, h2.keep hf⟩
theorem ItL.keep {w w' : World} {ao : Option Addr} {cap : Nat} {l : List It} (h : ItL w ao cap l) (hf : Fr (fun _ => False) w w') : ItL w' ao cap l := by
  obtain ⟨h1, h2, h3, h4⟩ := h
  refine ⟨h1, h2, h3, ?_⟩
  rcases h4 with h4 | ⟨b, off, rfl, h4⟩
  · exact Or.inl h4
  · refine Or.inr ⟨b, off, rfl, fun i x hx => ?_⟩
    obtain ⟨ap, cp, a1, a2⟩ := h4 i x hx
    exact ⟨ap, cp, a1.keep hf, fun j u hu => hf.cellN (a2 j u hu)⟩
theorem FcI.keep {w w' : World} {f : Fc} {v : Value} (h : FcI w f v) (hf : Fr (fun _ => False) w w') : FcI w' f v := by
  obtain ⟨ao, cap, h1, h2⟩ := h
  exact ⟨ao, cap, h1, h2.keep hf⟩
theorem fr_of_kept {w w' : World} (h : w.keptBut w' (fun _ => False)) (hs : w.heap.size ≤ w'.heap.size) : Fr (fun _ => False) w w' := by
  refine ⟨h.1, h.2.1, hs, fun k hk _ => ?_⟩
  have := h.2.2 k hk
  cases e1 : w.heap[k]? with
  | none => rw [e1] at this; cases e2 : w'.heap[k]? <;> rw [e2] at this <;> simp_all
  | some o =>
    rw [e1] at this
    cases e2 : w'.heap[k]? with
    | none => rw [e2] at this; cases o <;> simp_all
    | some o' =>
      rw [e2] at this
      cases o with
      | cells c t fr =>
        cases o' with
        | cells c' t' fr' =>
          simp only at this
          obtain ⟨rfl, rfl, _, hc⟩ := this
          have e : c' = c := by
            apply Array.ext_getElem?
            intro j
            exact hc j (fun h => h)
          rw [e]
        | _ => simp_all
      | map es clock =>
        cases o' with
        | map es' clock' =>
          simp only [false_or] at this
          rw [this.1, this.2]
        | _ => simp_all
      | _ => simp_all
theorem drewN_fr {S : Nat → Prop} {w w' : World} (h : Fr S w w') (n : Nat) : Fr S w (w'.drewN n) := ⟨h.os, h.output, h.size, h.block⟩
theorem ret_bl {x y : Bool} (h : x = y) : Ending.returned (.bool x) = .returned (.bool y) := by rw [h]
theorem ret_ci {x y : Int} (h : x = y) : Ending.returned (ci x) = .returned (ci y) := by rw [h]
theorem ret_ct {x y : Bs} (h : x = y) : Ending.returned (ct x) = .returned (ct y) := by rw [h]
theorem box5 {w : World} {b : Nat} {x0 x1 x2 x3 x4 : Value} {t : TypeId} (hb : w.heap[b]? = some (.cells #[x0, x1, x2, x3, x4] t (0, 0))) :
    w.cell? ⟨b, 0, none⟩ = some x0 ∧ w.cell? ⟨b, 1, none⟩ = some x1 ∧ w.cell? ⟨b, 2, none⟩ = some x2 ∧ w.cell? ⟨b, 3, none⟩ = some x3 ∧ w.cell? ⟨b, 4, none⟩ = some x4 := by
  exact ⟨cell_of_row _ _ 0 _ _ _ hb, cell_of_row _ _ 1 _ _ _ hb, cell_of_row _ _ 2 _ _ _ hb, cell_of_row _ _ 3 _ _ _ hb, cell_of_row _ _ 4 _ _ _ hb⟩
theorem box2 {w : World} {b : Nat} {x0 x1 : Value} {t : TypeId} (hb : w.heap[b]? = some (.cells #[x0, x1] t (0, 0))) :
    w.cell? ⟨b, 0, none⟩ = some x0 ∧ w.cell? ⟨b, 1, none⟩ = some x1 := by
  exact ⟨cell_of_row _ _ 0 _ _ _ hb, cell_of_row _ _ 1 _ _ _ hb⟩
end Go.Proofs.YtpjahcncknccdaaGreat.Ty
