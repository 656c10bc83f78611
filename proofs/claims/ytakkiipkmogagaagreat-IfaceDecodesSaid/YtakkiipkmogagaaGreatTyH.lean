/- A copy of an item; the first item of a name. -/
import Derived.Test.YtakkiipkmogagaaGreatTyG
import Derived.Test.YtakkiipkmogagaaGreatTyE
namespace Go.Proofs.YtakkiipkmogagaaGreat.Ty
open Go.RowKit
set_option linter.unusedSimpArgs false
set_option linter.unusedVariables false


theorem frozen_row {w : World} {g : Nat} {cs : Array Value} {t : TypeId} (hg : w.heap[g]? = some (.cells cs t (0, 0))) (j : Nat) : w.frozen? ⟨g, j, none⟩ = false := by simp [World.frozen?, hg]
theorem set_five {w : World} {g : Nat} {a b c d e : Value} {t : TypeId} (hg : w.heap[g]? = some (.cells #[a, b, c, d, e] t (0, 0))) (v0 v1 v2 v3 v4 : Value) :
    (((((w.setCell ⟨g, 0, none⟩ v0).setCell ⟨g, 1, none⟩ v1).setCell ⟨g, 2, none⟩ v2).setCell ⟨g, 3, none⟩ v3).setCell ⟨g, 4, none⟩ v4).heap[g]? = some (.cells #[v0, v1, v2, v3, v4] t (0, 0)) := by
  have h1 := heap_setCell_same w g 0 _ t v0 hg
  have h2 := heap_setCell_same _ g 1 _ t v1 h1
  have h3 := heap_setCell_same _ g 2 _ t v2 h2
  have h4 := heap_setCell_same _ g 3 _ t v3 h3
  exact heap_setCell_same _ g 4 _ t v4 h4
theorem fr_five {S : Nat → Prop} {w w' : World} (h : Fr S w w') {g : Nat} (hg : w.heap.size ≤ g) (v0 v1 v2 v3 v4 : Value) :
    Fr S w (((((w'.setCell ⟨g, 0, none⟩ v0).setCell ⟨g, 1, none⟩ v1).setCell ⟨g, 2, none⟩ v2).setCell ⟨g, 3, none⟩ v3).setCell ⟨g, 4, none⟩ v4) :=
  h.over (((((Fr.setCell w' ⟨g, 0, none⟩ v0).same (Fr.setCell _ ⟨g, 1, none⟩ v1)).same (Fr.setCell _ ⟨g, 2, none⟩ v2)).same (Fr.setCell _ ⟨g, 3, none⟩ v3)).same (Fr.setCell _ ⟨g, 4, none⟩ v4)) (fun k hk => by subst hk; exact hg)
theorem wpl_append_none {w : World} {ops : Array Oper} {rest : List Oper} {o : Oper} {a : Act} {Q : Exit → Act → World → Prop} (hgd : o.guard = none) (s x : Operand) (ty e : TypeId) (size : Nat)
    (hty : Tryz.prog.underlying ty = some (.slice e)) (hinfo : (Tryz.prog.info? e).isSome = true)
    (ho : o.op = .call { callee := .builtin .append, args := #[s, x], argTypes := #[ty, ty] }) (B : Nat) (v : Value) (n : Nat) (cells : List Value)
    (hs : a.eval s = v) (hr : w.ownsRow B e size v n cells) (hx : a.eval x = .slice none 0 0) (h : wpList Tryz.prog ops Q rest (a.put o.dst v) w) : wpList Tryz.prog ops Q (o :: rest) a w := by
  refine wpList_plain hgd fun K hK => ?_
  obtain ⟨i, hi⟩ := Option.isSome_iff_exists.1 hinfo
  have hrun := run_append_owned_none (P := Tryz.prog) (w := w) B ty o.type e i size hty hi v n cells hr
  unfold Oper.wp
  simp [execOp, ho, resolve, invoke, builtin, hs, hx, hrun, Result.andThen]
  exact hK _ _ h
theorem own_lower' {w : World} {B B' : Nat} {e : TypeId} {size : Nat} {v : Value} {n : Nat} {cells : List Value} (h : w.ownsRow B e size v n cells) (hb : B' ≤ B) : w.ownsRow B' e size v n cells := by
  refine ⟨h.1, ?_⟩
  rcases h.2 with h0 | ⟨g, cap, cur, rfl, hb2, hg, rest⟩
  · exact Or.inl h0
  · exact Or.inr ⟨g, cap, cur, rfl, by omega, hg, rest⟩
theorem info_int : (Tryz.prog.info? 3).map (fun i => (i.zero, i.size, i.bytes)) = some (some (ci 0), 1, 8) := by kernel_rfl
/-- A row of ints of the call's own. -/
theorem own_ints {w : World} {B : Nat} {v : Value} {l : List Int} (h : w.ownsRow B 3 1 v l.length (l.map ci)) : ∃ ao cap, v = .slice ao l.length cap ∧ InL w ao cap l ∧ ∀ k, v.ownBlock = some k → B ≤ k := by
  obtain ⟨ao, cap, rfl, h1, h2, h3, h4, h5⟩ := own_slice h (by decide)
  refine ⟨ao, cap, rfl, ⟨h1, h2, h3, ?_⟩, fun k hk => (own_block h k hk).1⟩
  rcases h5 with h5 | ⟨g, rfl, hB, hg, hc⟩
  · exact Or.inl (List.eq_nil_of_length_eq_zero h5)
  · exact Or.inr ⟨g, 0, rfl, fun i x hx => by rw [Nat.zero_add]; exact hc i _ (by rw [List.getElem?_map, hx]; rfl)⟩
/-- An item whose list is nobody else's. -/
def ItN (w : World) (B : Nat) (i : It) (v : Value) : Prop := ∃ ao cap, v = itV i (.slice ao i.params.length cap) ∧ w.ownsRow B 3 1 (.slice ao i.params.length cap) i.params.length (i.params.map ci)
theorem ItN.iti {w : World} {B : Nat} {i : It} {v : Value} (h : ItN w B i v) : ItI w i v := by
  obtain ⟨ao, cap, rfl, h1⟩ := h
  obtain ⟨ao', cap', e, h2, _⟩ := own_ints h1
  simp only [Value.slice.injEq, true_and] at e
  obtain ⟨rfl, rfl⟩ := e
  exact ⟨_, _, rfl, h2⟩
end Go.Proofs.YtakkiipkmogagaaGreat.Ty
