/- Values that are right, alike, shown; a value and a head out of an item. -/
import Derived.Test.YtpjahcncknccdaaGreatTyF
import Derived.Test.YtpjahcncknccdaaGreatTyB
import Derived.Deep.QuietTactic
import Derived.BigQuiet
import Derived.Laws.ResultCell
namespace Go.Proofs.YtpjahcncknccdaaGreat.Ty
open Go.RowKit
set_option linter.unusedSimpArgs false
set_option linter.unusedVariables false


theorem shl12 (a : Int) : IntKind.u64.wrap (a * 4096) = a % 4503599627370496 * 4096 := by rw [IntKind.wrap_u64]; omega
set_option maxRecDepth 20000 in
theorem rightv_any (t b : Int) (hb : U64 b) (w : World) :
    Calls Tryz.prog 73 #[.agg #[ci t, .int .u64 b]] w fun e w' => e = .returned (.bool (rightV t b)) ∧ Fr (fun _ => False) w w' := by
  have kc := fun w => (F.canon_any b ⟨hb.1, hb.2⟩ w).mono (fun e w' h => (⟨h.1, h.2.symm⟩ : _ ∧ w' = w))
  unfold rightV
  by_cases h1 : t = 1
  · subst h1
    go_enter Tryz.func73, Tryz.ntmps73
    go_wp2
    go_ret
    exact ⟨rfl, Fr.alloc _ _ _⟩
  by_cases h2 : t = 2
  · subst h2
    go_enter Tryz.func73, Tryz.ntmps73
    go_wp2_with fail
    go_quiet ((go_at_call 95; exact Calls.quiet_of_same (kc _)))
    go_wp2_with fail
    go_ret
    exact ⟨rfl, drewN_fr (Fr.alloc _ _ _) _⟩
  by_cases h3 : t = 3
  · subst h3
    go_enter Tryz.func73, Tryz.ntmps73
    go_wp2
    go_ret
    exact ⟨rfl, Fr.alloc _ _ _⟩
  rw [if_neg h1, if_neg h2, if_neg h3]
  have b1 : (t == 1) = false := by simp [h1]
  have b2 : (t == 2) = false := by simp [h2]
  have b3 : (t == 3) = false := by simp [h3]
  clear h1 h2 h3
  go_enter Tryz.func73, Tryz.ntmps73
  go_wp2
  go_ret
  exact ⟨rfl, Fr.alloc _ _ _⟩
theorem wrap_I (b : Int) : D.I64 (wrap64 b) := by unfold D.I64 wrap64; omega
/-- The result of a function that lies in memory. -/
theorem post_one {fn : Func} {R : Ending → World → Prop} {a : Act} {w : World} {p : Tmp} {ty : TypeId} (h : fn.results = #[.cell p ty]) (hd : a.defers = []) (g : Nat) (cs : Array Value) (t : TypeId) (d : TypeDesc)
    (hp : a.tmps.getD p undef = .pointer (some ⟨g, 0, none⟩)) (hg : w.heap[g]? = some (.cells cs t (0, 0)))
    (hu : Tryz.prog.underlying ty = some d) (hdd : (match d with | .struct _ | .array _ _ => true | _ => false) = true) (hi : (Tryz.prog.info? ty).map (·.size) = some cs.size)
    (hR : R (.returned (.agg cs)) w) : bodyPost Tryz.prog fn R .ret a w :=
  ⟨hd, _, results_cell_row h _ _ g t cs (0, 0) d hp hg hu (by cases d <;> first | rfl | exact hdd) hi, hR⟩
theorem alloc_at (w : World) (o : Obj) (k : Nat) (h : k = w.heap.size) : (w.alloc o).heap[k]? = some o := by rw [h]; exact alloc_new _ _
set_option maxRecDepth 20000 in
theorem valueOf_any (i : It) (pv : Value) (w : World) : Calls Tryz.prog 74 #[itV i pv] w fun e w' => e = .returned (.agg #[ci i.typ, .int .u64 i.bits]) ∧ Fr (fun _ => False) w w' := by
  obtain ⟨kind, name, typ, bits, params⟩ := i
  go_enter Tryz.func74, Tryz.ntmps74
  go_wp2_with fail
  refine post_one rfl rfl _ #[ci typ, .int .u64 bits] 54 _ rfl ?_ Tryz.underlying54 rfl (by kernel_rfl) ⟨rfl, (Fr.alloc _ _ _).same (Fr.alloc _ _ _)⟩
  exact alloc_at _ _ _ (by simp)
set_option maxRecDepth 20000 in
theorem headOf_any (i : It) (pv : Value) (w : World) : Calls Tryz.prog 57 #[itV i pv] w fun e w' => e = .returned (.agg #[ci i.kind, ct i.name, ci i.typ, .int .u64 i.bits]) ∧ Fr (fun _ => False) w w' := by
  obtain ⟨kind, name, typ, bits, params⟩ := i
  go_enter Tryz.func57, Tryz.ntmps57
  go_wp2_with fail
  refine post_one rfl rfl _ #[ci kind, ct name, ci typ, .int .u64 bits] 108 _ rfl ?_ Tryz.underlying108 rfl (by kernel_rfl) ⟨rfl, (Fr.alloc _ _ _).same (Fr.alloc _ _ _)⟩
  exact alloc_at _ _ _ (by simp)
end Go.Proofs.YtpjahcncknccdaaGreat.Ty
