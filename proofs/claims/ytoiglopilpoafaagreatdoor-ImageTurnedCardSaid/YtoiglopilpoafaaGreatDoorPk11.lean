/- Texts of ours, in one. -/
import Derived.Test.YtoiglopilpoafaaGreatDoorPk5
import Derived.Deep.DeepCutAuto
import Derived.Laws.Tables
import Derived.Great.Walk
import Derived.Maps.AppendAt
import Derived.Laws.AppendOwnNone
import Derived.Deep.Quiet
import Derived.Deep.QuietTactic
import Derived.BigQuiet
import Derived.Test.YtoiglopilpoafaaGreatDoorPk6
import Derived.Test.YtoiglopilpoafaaGreatDoorPk8
import Derived.Laws.ResultCell
namespace Go.Proofs.YtoiglopilpoafaaGreatDoor
open Go.RowKit Go.Great
set_option linter.unusedSimpArgs false
set_option linter.unusedVariables false
theorem wpl_build {P : Program} {ops : Array Oper} {rest : List Oper} {o : Oper} {a : Act} {w : World} {Q : Exit → Act → World → Prop} (hg : o.guard = none) (t : TypeId) (parts : Array (Nat × Operand)) (ho : o.op = .build t parts)
    (cells : Array Value) (hf : P.built t (parts.map fun (i, x) => (i, a.eval x)).toList = some cells)
    (h : ∀ a', a' = a.put o.dst (.agg cells) → wpList P ops Q rest a' w) : wpList P ops Q (o :: rest) a w := by
  refine wpList_build hg t parts ho (by rw [hf]; rfl) ?_
  rw [hf]
  exact h _ rfl
theorem alloc_setRow (w : World) (old cs : Array Value) (t : TypeId) : (w.alloc (.cells old t (0, 0))).setRow w.heap.size cs = w.alloc (.cells cs t (0, 0)) := by
  unfold World.setRow World.alloc
  congr 1
  apply Array.ext
  · simp
  · intro i h1 h2
    simp only [Array.getElem_modify, Array.getElem_push]
    split <;> rename_i h
    · subst h
      simp
    · have hlt : i < w.heap.size := by simp at h2; omega
      rw [dif_pos hlt, dif_pos hlt]
theorem wpl_alloc {P : Program} {ops : Array Oper} {rest : List Oper} {o : Oper} {a : Act} {w : World} {Q : Exit → Act → World → Prop} (hg : o.guard = none) (v : Value) (ob : Obj) (hrun : (execOp a.eval o).run P w = .ok (.value v) (w.alloc ob))
    (h : ∀ a', a' = a.put o.dst v → wpList P ops Q rest a' (w.alloc ob)) : wpList P ops Q (o :: rest) a w :=
  wpList_allocTo hg o.dst rfl v ob hrun (h _ rfl)
theorem wpl_store {P : Program} {ops : Array Oper} {rest : List Oper} {o : Oper} {a : Act} {w : World} {Q : Exit → Act → World → Prop} (hgd : o.guard = none) (ty : TypeId) (x y : Operand) (ho : o.op = .store ty x y)
    (cells old : Array Value) (t : TypeId) (hx : a.eval x = .pointer (some ⟨w.heap.size, 0, none⟩)) (hy : a.eval y = .agg cells) (hi : (P.info? ty).map (·.size) = some cells.size)
    (hold : old.size = cells.size) (h1 : cells.all (·.oneCell') = true)
    (h : ∀ a', a' = a.put o.dst undef → wpList P ops Q rest a' (w.alloc (.cells cells t (0, 0)))) : wpList P ops Q (o :: rest) a (w.alloc (.cells old t (0, 0))) := by
  refine wpList_store_row hgd ty x y ho w.heap.size cells hx hy t old (alloc_new _ _) hi hold h1 ?_
  rw [alloc_setRow]
  exact h _ rfl
theorem wpl_load {P : Program} {ops : Array Oper} {rest : List Oper} {o : Oper} {a : Act} {w : World} {Q : Exit → Act → World → Prop} (hgd : o.guard = none) (ty : TypeId) (x : Operand) (ho : o.op = .load ty x)
    (g : Nat) (cs : Array Value) (t : TypeId) (d : TypeDesc) (hx : a.eval x = .pointer (some ⟨g, 0, none⟩)) (hg : w.heap[g]? = some (.cells cs t (0, 0)))
    (hu : P.underlying ty = some d) (hd : (match d with | .struct _ | .array _ _ => true | _ => false) = true) (hi : (P.info? ty).map (·.size) = some cs.size)
    (h : ∀ a', a' = a.put o.dst (.agg cs) → wpList P ops Q rest a' w) : wpList P ops Q (o :: rest) a w :=
  wpList_load_row hgd ty x ho g hx t cs (0, 0) d hg hu hd hi (h _ rfl)
/-- append of some elements to a row of the call's own. -/
theorem wpl_append {w : World} {ops : Array Oper} {rest : List Oper} {o : Oper} {a : Act} {Q : Exit → Act → World → Prop} (hgd : o.guard = none) (s x : Operand) (ty e : TypeId) (z : Value) (size bytes : Nat)
    (hty : Tryz.prog.underlying ty = some (.slice e)) (hinfo : (Tryz.prog.info? e).map (fun i => (i.zero, i.size, i.bytes)) = some (some z, size, bytes)) (hzs : z.cells.size = size) (hsz : 0 < size)
    (ho : o.op = .call { callee := .builtin .append, args := #[s, x], argTypes := #[ty, ty] }) (B : Nat) (v : Value) (n : Nat) (cells : List Value) (ad : Addr) (k c : Nat) (news : List Value)
    (hs : a.eval s = v) (hr : w.ownsRow B e size v n cells) (hx : a.eval x = .slice (some ad) k c) (hl : news.length = k * size) (hc : ∀ (j : Nat) (u : Value), news[j]? = some u → w.cell? (ad.add j) = some u) (h1 : ∀ u ∈ news, u.oneCell' = true)
    (hm : n + k ≤ maxLen) (hb : (n + k) * bytes ≤ 140737488355328) (hB : B ≤ w.heap.size)
    (h : ∀ v' w', w'.ownsRow B e size v' (n + k) (cells ++ news) → Fr (fun b => v.ownBlock = some b) w w' → (v'.ownBlock = v.ownBlock ∨ v'.ownBlock = some w.heap.size) → wpList Tryz.prog ops Q rest (a.put o.dst v') w') : wpList Tryz.prog ops Q (o :: rest) a w := by
  refine wpList_plain hgd fun K hK => ?_
  cases hi : Tryz.prog.info? e with
  | none => rw [hi] at hinfo; cases hinfo
  | some i =>
    rw [hi] at hinfo
    simp only [Option.map_some, Option.some.injEq, Prod.mk.injEq] at hinfo
    obtain ⟨v', w', hrun, h2, h3, _, h5⟩ := run_append_own_at (P := Tryz.prog) w B ty o.type e i z size bytes hty hi hinfo.1 hinfo.2.1 hinfo.2.2 hzs hsz v n cells hr ad k c news hl hc h1 hm hb hB
    unfold Oper.wp
    simp only [execOp, ho, resolve, invoke, builtin, Sem.run_bind, Sem.run_pure, Result.andThen_ok, List.map_toArray, List.map_cons, List.map_nil, hs, hx, hrun]
    exact hK _ _ (h v' w' h2 ((Fr.grown h3).mono fun k _ e => e.symm) h5)
theorem own_nil (w : World) (B : Nat) (e : TypeId) (size : Nat) : w.ownsRow B e size (.slice none 0 0) 0 [] := ⟨by simp, Or.inl ⟨rfl, rfl⟩⟩
theorem own_block {w : World} {B : Nat} {e : TypeId} {size : Nat} {v : Value} {n : Nat} {cells : List Value} (h : w.ownsRow B e size v n cells) : ∀ k, v.ownBlock = some k → B ≤ k ∧ k < w.heap.size := by
  intro k hk
  rcases h.2 with ⟨rfl, _⟩ | ⟨g, cap, cur, rfl, hb, hg, rest⟩
  · cases hk
  · have : g = k := by simpa [Value.ownBlock] using hk
    subst this
    exact ⟨hb, lt_of_heap hg⟩
theorem own_keep {S : Nat → Prop} {w w' : World} {B : Nat} {e : TypeId} {size : Nat} {v : Value} {n : Nat} {cells : List Value} (h : w.ownsRow B e size v n cells) (hf : Fr S w w') (hn : ∀ k, v.ownBlock = some k → ¬ S k) : w'.ownsRow B e size v n cells := by
  refine ⟨h.1, ?_⟩
  rcases h.2 with h0 | ⟨g, cap, cur, rfl, hb, hg, rest⟩
  · exact Or.inl h0
  · exact Or.inr ⟨g, cap, cur, rfl, hb, hf.heap hg (hn g rfl), rest⟩
/-- What such a row's slice is, and what its cells hold. -/
theorem own_slice {w : World} {B : Nat} {e : TypeId} {size : Nat} {v : Value} {n : Nat} {cells : List Value} (h : w.ownsRow B e size v n cells) (hs : 0 < size) :
    ∃ ao cap, v = .slice ao n cap ∧ n ≤ cap ∧ cap ≤ maxLen ∧ (ao = none → cap = 0) ∧ cells.length = n * size ∧ (n = 0 ∨ ∃ g, ao = some ⟨g, 0, none⟩ ∧ B ≤ g ∧ g < w.heap.size ∧ ∀ (j : Nat) (u : Value), cells[j]? = some u → w.cell? ⟨g, j, none⟩ = some u) := by
  obtain ⟨hl, hh⟩ := h
  rcases hh with ⟨rfl, rfl⟩ | ⟨g, cap, cur, rfl, hb, hg, hnc, hcm, hcs, ht⟩
  · exact ⟨none, 0, rfl, by omega, by simp [maxLen], fun _ => rfl, hl, Or.inl rfl⟩
  · refine ⟨some ⟨g, 0, none⟩, cap, rfl, hnc, hcm, (fun h => by cases h), hl, Or.inr ⟨g, rfl, hb, lt_of_heap hg, fun j u hu => ?_⟩⟩
    rw [cell_of_row w g j cur e (0, 0) hg]
    rw [← ht, List.getElem?_take] at hu
    split at hu
    · simpa using hu
    · cases hu
end Go.Proofs.YtoiglopilpoafaaGreatDoor

namespace Go.Proofs.YtoiglopilpoafaaGreatDoor
open Go.RowKit
set_option linter.unusedSimpArgs false
set_option linter.unusedVariables false

/-- The walk of a region as it is written, shut (so that nothing looks into it). -/
structure Grow (P : Program) (ops : Array Oper) (C : World → Prop) (Q : Act → Prop) (l : List Oper) (a : Act) : Prop where
  run : wpQuiet P ops C Q l a
theorem wp_region_grow {P : Program} {id : Nat} {Q : Exit → Act → World → Prop} {a : Act} {w : World} {l : List Oper} (hm : P.follows .mixedOrders = true) (hB : Region.lexB .any l.toArray = true)
    (h : Grow P l.toArray (fun w' => Fr (fun _ => False) w w') (fun a' => ∀ w', Fr (fun _ => False) w w' → Q .normal a' w') l a) : (Code.region id l.toArray true).wp P Q a w :=
  wp_region_quiet (C := fun w' => Fr (fun _ => False) w w') hm hB (Fr.drew _ w) (by simpa using h.run)
theorem grow_nil {P : Program} {ops : Array Oper} {C : World → Prop} {Q : Act → Prop} {a : Act} (h : Q a) : Grow P ops C Q [] a := ⟨h⟩
theorem grow_op {P : Program} {ops : Array Oper} {C : World → Prop} {Q : Act → Prop} {o : Oper} {rest : List Oper} {a : Act} {v : Value} (hw : Region.wanted o (yielded ops a.tmps) = true)
    (h1 : ∀ w', C w' → o.quietAt P a C w' v) (h2 : ∀ a', a' = a.put o.dst v → Grow P ops C Q rest a') : Grow P ops C Q (o :: rest) a := by
  refine ⟨?_⟩
  unfold wpQuiet
  rw [if_pos hw]
  exact ⟨v, h1, (h2 _ rfl).run⟩
theorem grow_no {P : Program} {ops : Array Oper} {C : World → Prop} {Q : Act → Prop} {o : Oper} {rest : List Oper} {a : Act} (hw : Region.wanted o (yielded ops a.tmps) = false)
    (h2 : ∀ a', a' = a.put o.dst undef → Grow P ops C Q rest a') : Grow P ops C Q (o :: rest) a := by
  refine ⟨?_⟩
  unfold wpQuiet
  rw [hw, if_neg (by decide)]
  exact (h2 _ rfl).run
theorem wanted_none {o : Oper} {y : Nat → Option Bool} (h : o.guard = none) : Region.wanted o y = true := by simp [Region.wanted, h]
theorem calls_grow {P : Program} {f : FuncId} {args : Array Value} {w w' : World} {v : Value} (hw : Fr (fun _ => False) w w') (h : Calls P f args w' fun e w'' => e = .returned v ∧ Fr (fun _ => False) w' w'') :
    Calls P f args w' fun e w'' => e = .returned v ∧ Fr (fun _ => False) w w'' := h.mono fun _ _ ⟨he, hf⟩ => ⟨he, hw.same hf⟩
end Go.Proofs.YtoiglopilpoafaaGreatDoor

namespace Go.Proofs.YtoiglopilpoafaaGreatDoor.Ty
open Go.RowKit
set_option linter.unusedSimpArgs false
set_option linter.unusedVariables false

theorem ofv_any (t : Int) (w : World) : Calls Tryz.prog 131 #[ci t] w fun e w' => e = .returned (.bool (valued t)) ∧ w' = w := by
  go_enter Tryz.func131, Tryz.ntmps131
  go_wp2
  all_goals
    go_ret
    refine ⟨ret_bl ?_, rfl⟩
    rw [Bool.eq_iff_iff, valued_iff]
    try simp only [decide_eq_true_eq, decide_eq_false_iff_not, beq_iff_eq, beq_eq_false_iff_ne, ne_eq, Bool.false_eq_true, iff_false, false_iff, true_iff, not_or] at *
    omega
theorem findS_at {s : Bs} {t : Int} (h1 : 1 ≤ t) (h3 : t ≤ 3) (hn : ∀ u, 1 ≤ u → u < t → nameS u ≠ s) (he : nameS t = s) : findS s = (t, true) := by
  have : t = 1 ∨ t = 2 ∨ t = 3 := by omega
  subst he
  rcases this with rfl | rfl | rfl <;> rfl
theorem findS_no {s : Bs} (hn : ∀ u : Int, 1 ≤ u → u < 4 → nameS u ≠ s) : findS s = (0, false) := by
  have a1 := hn 1 (by omega) (by omega)
  have a2 := hn 2 (by omega) (by omega)
  have a3 := hn 3 (by omega) (by omega)
  simp only [nameS] at a1 a2 a3
  unfold findS
  rw [if_neg (fun e => a1 (by rw [e]; rfl)), if_neg (fun e => a2 (by rw [e]; rfl)), if_neg (fun e => a3 (by rw [e]; rfl))]
end Go.Proofs.YtoiglopilpoafaaGreatDoor.Ty

namespace Go.Proofs.YtoiglopilpoafaaGreatDoor.Ty
open Go.RowKit
set_option linter.unusedSimpArgs false
set_option linter.unusedVariables false


theorem shl12 (a : Int) : IntKind.u64.wrap (a * 4096) = a % 4503599627370496 * 4096 := by rw [IntKind.wrap_u64]; omega
set_option maxRecDepth 20000 in
theorem rightv_any (t b : Int) (hb : U64 b) (w : World) :
    Calls Tryz.prog 32 #[.agg #[ci t, .int .u64 b]] w fun e w' => e = .returned (.bool (rightV t b)) ∧ Fr (fun _ => False) w w' := by
  have kc := fun w => (F.canon_any b ⟨hb.1, hb.2⟩ w).mono (fun e w' h => (⟨h.1, h.2.symm⟩ : _ ∧ w' = w))
  unfold rightV
  by_cases h1 : t = 1
  · subst h1
    go_enter Tryz.func32, Tryz.ntmps32
    go_wp2
    go_ret
    exact ⟨rfl, Fr.alloc _ _ _⟩
  by_cases h2 : t = 2
  · subst h2
    go_enter Tryz.func32, Tryz.ntmps32
    go_wp2_with fail
    go_quiet ((go_at_call 50; exact Calls.quiet_of_same (kc _)))
    go_wp2_with fail
    go_ret
    exact ⟨rfl, drewN_fr (Fr.alloc _ _ _) _⟩
  by_cases h3 : t = 3
  · subst h3
    go_enter Tryz.func32, Tryz.ntmps32
    go_wp2
    go_ret
    exact ⟨rfl, Fr.alloc _ _ _⟩
  rw [if_neg h1, if_neg h2, if_neg h3]
  have b1 : (t == 1) = false := by simp [h1]
  have b2 : (t == 2) = false := by simp [h2]
  have b3 : (t == 3) = false := by simp [h3]
  clear h1 h2 h3
  go_enter Tryz.func32, Tryz.ntmps32
  go_wp2
  go_ret
  exact ⟨rfl, Fr.alloc _ _ _⟩
theorem wrap_I (b : Int) : D.I64 (wrap64 b) := by unfold D.I64 wrap64; omega
/-- The result of a function that lies in memory. -/
theorem post_one {fn : Func} {R : Ending → World → Prop} {a : Act} {w : World} {p : Tmp} {ty : TypeId} (h : fn.results = #[.cell p ty]) (hd : a.defers = []) (g : Nat) (cs : Array Value) (t : TypeId) (d : TypeDesc)
    (hp : a.tmps.getD p undef = .pointer (some ⟨g, 0, none⟩)) (hg : w.heap[g]? = some (.cells cs t (0, 0)))
    (hu : Tryz.prog.underlying ty = some d) (hdd : (match d with | .struct _ | .array _ _ => true | _ => false) = true) (hi : (Tryz.prog.info? ty).map (·.size) = some cs.size)
    (hR : R (.returned (.agg cs)) w) : bodyPost Tryz.prog fn R .ret a w :=
  ⟨hd, _, results_cell_row h _ _ g t cs (0, 0) d hp hg hu (by cases d <;> first | rfl | exact hdd) hi, hR⟩
theorem alloc_at (w : World) (o : Obj) (k : Nat) (h : k = w.heap.size) : (w.alloc o).heap[k]? = some o := by rw [h]; exact alloc_new _ _
end Go.Proofs.YtoiglopilpoafaaGreatDoor.Ty
