/- Values that are right, alike, shown; a value and a head out of an item. -/
import Derived.Test.YtjnjajiofhkinaaGreatDoorTyF
import Derived.Test.YtjnjajiofhkinaaGreatDoorTyB
import Derived.Deep.QuietTactic
import Derived.BigQuiet
import Derived.Laws.ResultCell
namespace Go.Proofs.YtjnjajiofhkinaaGreatDoor.Ty
open Go.RowKit
set_option linter.unusedSimpArgs false
set_option linter.unusedVariables false


theorem shl12 (a : Int) : IntKind.u64.wrap (a * 4096) = a % 4503599627370496 * 4096 := by rw [IntKind.wrap_u64]; omega
theorem rcanon_any (a : Int) (ha : F.Fl.U a) (w : World) :
    Calls Tryz.prog 69 #[.int .u64 a] w fun e w' => e = .returned (.int .u64 (F.Fl.canonS a)) ∧ w = w' := by
  have k3 := F.and_exp (a / 4503599627370496) ⟨by obtain ⟨_, _⟩ := ha; omega, by obtain ⟨_, _⟩ := ha; omega⟩
  have k4 := shl12 a
  obtain ⟨h0, h1⟩ := ha
  go_enter Tryz.func69, Tryz.ntmps69
  go_wp2
  all_goals
    go_ret
    refine ⟨congrArg (fun z => Ending.returned (.int .u64 z)) ?_, rfl⟩
    try simp only [bne_iff_ne, beq_iff_eq, bne_eq_false_iff_eq, beq_eq_false_iff_ne, ne_eq] at *
    unfold F.Fl.canonS F.Fl.nan
    simp only [decide_eq_true_eq]
    split
    all_goals omega
set_option maxRecDepth 20000 in
theorem rightv_any (t b : Int) (hb : U64 b) (w : World) :
    Calls Tryz.prog 38 #[.agg #[ci t, .int .u64 b]] w fun e w' => e = .returned (.bool (rightV t b)) ∧ Fr (fun _ => False) w w' := by
  have kc := fun w => (F.canon_any b ⟨hb.1, hb.2⟩ w).mono (fun e w' h => (⟨h.1, h.2.symm⟩ : _ ∧ w' = w))
  unfold rightV
  by_cases h1 : t = 1
  · subst h1
    go_enter Tryz.func38, Tryz.ntmps38
    go_wp2
    go_ret
    exact ⟨rfl, Fr.alloc _ _ _⟩
  by_cases h2 : t = 2
  · subst h2
    go_enter Tryz.func38, Tryz.ntmps38
    go_wp2_with fail
    go_quiet ((go_at_call 56; exact Calls.quiet_of_same (kc _)))
    go_wp2_with fail
    go_ret
    exact ⟨rfl, drewN_fr (Fr.alloc _ _ _) _⟩
  by_cases h3 : t = 3
  · subst h3
    go_enter Tryz.func38, Tryz.ntmps38
    go_wp2
    go_ret
    exact ⟨rfl, Fr.alloc _ _ _⟩
  rw [if_neg h1, if_neg h2, if_neg h3]
  have b1 : (t == 1) = false := by simp [h1]
  have b2 : (t == 2) = false := by simp [h2]
  have b3 : (t == 3) = false := by simp [h3]
  clear h1 h2 h3
  go_enter Tryz.func38, Tryz.ntmps38
  go_wp2
  go_ret
  exact ⟨rfl, Fr.alloc _ _ _⟩
set_option maxRecDepth 20000 in
theorem rrightv_any (t b : Int) (hb : U64 b) (w : World) :
    Calls Tryz.prog 50 #[.agg #[ci t, .int .u64 b]] w fun e w' => e = .returned (.bool (rightV t b)) ∧ Fr (fun _ => False) w w' := by
  have kc := fun w => (rcanon_any b ⟨hb.1, hb.2⟩ w).mono (fun e w' h => (⟨h.1, h.2.symm⟩ : _ ∧ w' = w))
  unfold rightV
  by_cases h1 : t = 1
  · subst h1
    go_enter Tryz.func50, Tryz.ntmps50
    go_wp2
    go_ret
    exact ⟨rfl, Fr.alloc _ _ _⟩
  by_cases h2 : t = 2
  · subst h2
    go_enter Tryz.func50, Tryz.ntmps50
    go_wp2_with fail
    go_quiet ((go_at_call 69; exact Calls.quiet_of_same (kc _)))
    go_wp2_with fail
    go_ret
    exact ⟨rfl, drewN_fr (Fr.alloc _ _ _) _⟩
  by_cases h3 : t = 3
  · subst h3
    go_enter Tryz.func50, Tryz.ntmps50
    go_wp2
    go_ret
    exact ⟨rfl, Fr.alloc _ _ _⟩
  rw [if_neg h1, if_neg h2, if_neg h3]
  have b1 : (t == 1) = false := by simp [h1]
  have b2 : (t == 2) = false := by simp [h2]
  have b3 : (t == 3) = false := by simp [h3]
  clear h1 h2 h3
  go_enter Tryz.func50, Tryz.ntmps50
  go_wp2
  go_ret
  exact ⟨rfl, Fr.alloc _ _ _⟩
theorem truth_any (b : Int) (w : World) : Calls Tryz.prog 79 #[.int .u64 b] w fun e w' => e = .returned (ct (truthS b)) ∧ w' = w := by
  unfold truthS
  by_cases h : b = 0
  · subst h
    go_enter Tryz.func79, Tryz.ntmps79
    go_wp2
    go_ret
    exact ⟨rfl, rfl⟩
  · rw [if_neg h]
    have hb : (b == 0) = false := by simp [h]
    clear h
    go_enter Tryz.func79, Tryz.ntmps79
    go_wp2
    go_ret
    exact ⟨rfl, rfl⟩
theorem wrap_I (b : Int) : D.I64 (wrap64 b) := by unfold D.I64 wrap64; omega
set_option maxRecDepth 20000 in
theorem show_any (t b : Int) (hb : U64 b) (w : World) (ht : F.Tab w) :
    Calls Tryz.prog 57 #[.agg #[ci t, .int .u64 b]] w fun e w' => e = .returned (ct (showS t b)) ∧ Fr (fun _ => False) w w' := by
  have f0 := Fr.alloc (fun _ => False) w (.cells #[ci t, .int .u64 b] 61)
  unfold showS
  by_cases h1 : t = 1
  · subst h1
    have kd := fun w => D.dec_any (wrap64 b) (wrap_I b) w
    rw [if_pos rfl]
    generalize Lib.itoa (wrap64 b) = l at kd ⊢
    go_enter Tryz.func57, Tryz.ntmps57
    go_wp2_with (go_at_call 77; refine (kd _ (tab_fr ht f0)).mono ?_; rintro e w1 ⟨rfl, g1⟩)
    go_ret
    exact ⟨rfl, f0.same (kb_frD g1)⟩
  by_cases h2 : t = 2
  · subst h2
    have kx := fun w => F.text_any b ⟨hb.1, hb.2⟩ w
    rw [if_neg (by decide), if_pos rfl]
    generalize F.textS b = l at kx ⊢
    go_enter Tryz.func57, Tryz.ntmps57
    go_wp2_with (go_at_call 78; refine (kx _ (tab_fr ht f0)).mono ?_; rintro e w1 ⟨rfl, g1⟩)
    go_ret
    exact ⟨rfl, f0.same (kb_fr g1)⟩
  by_cases h3 : t = 3
  · subst h3
    rw [if_neg (by decide), if_neg (by decide), if_pos rfl]
    have kt := fun w => truth_any b w
    generalize truthS b = l at kt ⊢
    go_enter Tryz.func57, Tryz.ntmps57
    go_wp2_with (go_at_call 79; refine (kt _).mono ?_; rintro e w1 ⟨rfl, rfl⟩)
    go_ret
    exact ⟨rfl, f0⟩
  rw [if_neg h1, if_neg h2, if_neg h3]
  have b1 : (t == 1) = false := by simp [h1]
  have b2 : (t == 2) = false := by simp [h2]
  have b3 : (t == 3) = false := by simp [h3]
  clear h1 h2 h3
  go_enter Tryz.func57, Tryz.ntmps57
  go_wp2
  go_ret
  exact ⟨rfl, f0⟩
/-- The result of a function that lies in memory. -/
theorem post_one {fn : Func} {R : Ending → World → Prop} {a : Act} {w : World} {p : Tmp} {ty : TypeId} (h : fn.results = #[.cell p ty]) (hd : a.defers = []) (g : Nat) (cs : Array Value) (t : TypeId) (d : TypeDesc)
    (hp : a.tmps.getD p undef = .pointer (some ⟨g, 0, none⟩)) (hg : w.heap[g]? = some (.cells cs t (0, 0)))
    (hu : Tryz.prog.underlying ty = some d) (hdd : (match d with | .struct _ | .array _ _ => true | _ => false) = true) (hi : (Tryz.prog.info? ty).map (·.size) = some cs.size)
    (hR : R (.returned (.agg cs)) w) : bodyPost Tryz.prog fn R .ret a w :=
  ⟨hd, _, results_cell_row h _ _ g t cs (0, 0) d hp hg hu (by cases d <;> first | rfl | exact hdd) hi, hR⟩
theorem alloc_at (w : World) (o : Obj) (k : Nat) (h : k = w.heap.size) : (w.alloc o).heap[k]? = some o := by rw [h]; exact alloc_new _ _
set_option maxRecDepth 20000 in
theorem valueOf_any (i : It) (pv : Value) (w : World) : Calls Tryz.prog 58 #[itV i pv] w fun e w' => e = .returned (.agg #[ci i.typ, .int .u64 i.bits]) ∧ Fr (fun _ => False) w w' := by
  obtain ⟨kind, name, typ, bits, params⟩ := i
  go_enter Tryz.func58, Tryz.ntmps58
  go_wp2_with fail
  refine post_one rfl rfl _ #[ci typ, .int .u64 bits] 61 _ rfl ?_ Tryz.underlying61 rfl (by kernel_rfl) ⟨rfl, (Fr.alloc _ _ _).same (Fr.alloc _ _ _)⟩
  exact alloc_at _ _ _ (by simp)
set_option maxRecDepth 20000 in
theorem headOf_any (i : It) (pv : Value) (w : World) : Calls Tryz.prog 40 #[itV i pv] w fun e w' => e = .returned (.agg #[ci i.kind, ct i.name, ci i.typ, .int .u64 i.bits]) ∧ Fr (fun _ => False) w w' := by
  obtain ⟨kind, name, typ, bits, params⟩ := i
  go_enter Tryz.func40, Tryz.ntmps40
  go_wp2_with fail
  refine post_one rfl rfl _ #[ci kind, ct name, ci typ, .int .u64 bits] 64 _ rfl ?_ Tryz.underlying64 rfl (by kernel_rfl) ⟨rfl, (Fr.alloc _ _ _).same (Fr.alloc _ _ _)⟩
  exact alloc_at _ _ _ (by simp)
end Go.Proofs.YtjnjajiofhkinaaGreatDoor.Ty
