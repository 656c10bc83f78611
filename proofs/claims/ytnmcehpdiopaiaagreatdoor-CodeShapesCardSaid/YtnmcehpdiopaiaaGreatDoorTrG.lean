/- Regions that draw their order, whose calls leave what was there as it was: walked once, as they are written. -/
import Derived.Test.YtnmcehpdiopaiaaGreatDoorNxA
import Derived.Deep.Quiet
import Derived.Deep.QuietTactic
import Derived.BigQuiet
namespace Go.Proofs.YtnmcehpdiopaiaaGreatDoor
open Go.RowKit
set_option linter.unusedSimpArgs false
set_option linter.unusedVariables false

/-- The walk of a region as it is written, shut (so that nothing looks into it). -/
structure Grow (P : Program) (ops : Array Oper) (C : World → Prop) (Q : Act → Prop) (l : List Oper) (a : Act) : Prop where
  run : wpQuiet P ops C Q l a
theorem wp_region_grow {P : Program} {id : Nat} {Q : Exit → Act → World → Prop} {a : Act} {w : World} {l : List Oper} (hm : P.follows .mixedOrders = true) (hB : Region.lexB .any l.toArray = true)
    (h : Grow P l.toArray (fun w' => Fr (fun _ => False) w w') (fun a' => ∀ w', Fr (fun _ => False) w w' → Q .normal a' w') l a) : (Code.region id l.toArray true).wp P Q a w :=
  wp_region_quiet (C := fun w' => Fr (fun _ => False) w w') hm hB (Fr.drew _ w) (by simpa using h.run)
theorem grow_nil {P : Program} {ops : Array Oper} {C : World → Prop} {Q : Act → Prop} {a : Act} (h : Q a) : Grow P ops C Q [] a := ⟨h⟩
theorem grow_op {P : Program} {ops : Array Oper} {C : World → Prop} {Q : Act → Prop} {o : Oper} {rest : List Oper} {a : Act} {v : Value} (hw : Region.wanted o (yielded ops a.tmps) = true)
    (h1 : ∀ w', C w' → o.quietAt P a C w' v) (h2 : ∀ a', a' = a.put o.dst v → Grow P ops C Q rest a') : Grow P ops C Q (o :: rest) a := by
  refine ⟨?_⟩
  unfold wpQuiet
  rw [if_pos hw]
  exact ⟨v, h1, (h2 _ rfl).run⟩
theorem grow_no {P : Program} {ops : Array Oper} {C : World → Prop} {Q : Act → Prop} {o : Oper} {rest : List Oper} {a : Act} (hw : Region.wanted o (yielded ops a.tmps) = false)
    (h2 : ∀ a', a' = a.put o.dst undef → Grow P ops C Q rest a') : Grow P ops C Q (o :: rest) a := by
  refine ⟨?_⟩
  unfold wpQuiet
  rw [hw, if_neg (by decide)]
  exact (h2 _ rfl).run
theorem wanted_none {o : Oper} {y : Nat → Option Bool} (h : o.guard = none) : Region.wanted o y = true := by simp [Region.wanted, h]
theorem calls_grow {P : Program} {f : FuncId} {args : Array Value} {w w' : World} {v : Value} (hw : Fr (fun _ => False) w w') (h : Calls P f args w' fun e w'' => e = .returned v ∧ Fr (fun _ => False) w' w'') :
    Calls P f args w' fun e w'' => e = .returned v ∧ Fr (fun _ => False) w w'' := h.mono fun _ _ ⟨he, hf⟩ => ⟨he, hw.same hf⟩
end Go.Proofs.YtnmcehpdiopaiaaGreatDoor
