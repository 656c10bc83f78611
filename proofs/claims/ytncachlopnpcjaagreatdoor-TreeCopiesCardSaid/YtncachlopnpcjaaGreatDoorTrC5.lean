/- The program's copies of expressions (for TreeCopies). -/
import Derived.Test.YtncachlopnpcjaaGreatDoorTrC4
import Derived.Test.YtncachlopnpcjaaGreatDoorTrD
import Derived.Test.YtncachlopnpcjaaGreatDoorTyT
namespace Go.Proofs.YtncachlopnpcjaaGreatDoor.Sl
open Go.RowKit Te
set_option linter.unusedSimpArgs false
set_option linter.unusedVariables false

/-- Each row is so long that it can be made anew. -/
def BdE : Exs → Prop
  | .nil => True
  | .cons _ k r => (k.len * 88 ≤ 140737488351232 ∧ BdE k) ∧ BdE r
def CxX (h : EH) (k : Exs) : Prop := ∀ (ao : Option Addr) (cap : Nat) (w : World), ExL w ao cap k → k.len * 88 ≤ 140737488351232 → BdE k →
  Calls Tryz.prog 25 #[exV h (.slice ao k.len cap)] w fun e w' => ∃ ao' cap', e = .returned (exV h (.slice ao' k.len cap')) ∧ Within w.heap.size w'.heap.size w' (fun u => ExL u ao' cap' k ∧ ShX u w.heap.size w'.heap.size ao' cap' k) ∧ Fr (fun _ => False) w w'
def CxL (k : Exs) : Prop := ∀ (ao : Option Addr) (cap : Nat) (w : World), ExL w ao cap k → k.len * 88 ≤ 140737488351232 → BdE k →
  Calls Tryz.prog 24 #[.slice ao k.len cap, .func (.func 25) #[] #[]] w fun e w' => ∃ v', e = .returned v' ∧ Rw.Row (RE KE w.heap.size w' v') 39 7 w' w.heap.size v' (toL k) ∧ Fr (fun _ => False) w w'
theorem info_ex : (Tryz.prog.info? 39).map (fun i => (i.zero, i.size, i.bytes)) = some (some (.agg #[.int .i64 0, .int .i64 0, .string ⟨#[]⟩, .string ⟨#[]⟩, .int .i64 0, .int .u64 0, .slice none 0 0]), 7, 88) := by kernel_rfl
abbrev xO (h : EH) (kv : Value) : Obj := .cells #[ci h.kind, ci h.op, ct h.mod, ct h.name, ci h.vt, .int .u64 h.vb, kv] 39 (0, 0)
theorem row_cells {w : World} {g : Nat} {a b c d e f h : Value} {t : TypeId} (hg : w.heap[g]? = some (.cells #[a, b, c, d, e, f, h] t (0, 0))) : ∀ (j : Nat) (u : Value), [a, b, c, d, e, f, h][j]? = some u → w.cell? ((⟨g, 0, none⟩ : Addr).add j) = some u := by
  intro j u hj
  rw [Addr.add_lit, Nat.zero_add, cell_of_row w g j _ t (0, 0) hg]
  simpa using hj
theorem post1x {fn : Func} {R : Ending → World → Prop} {a : Act} {w : World} {p : Tmp} (h : fn.results = #[.cell p 39]) (hd : a.defers = []) (g : Nat) (x0 x1 x2 x3 x4 x5 x6 : Value)
    (hp : a.tmps.getD p undef = .pointer (some ⟨g, 0, none⟩)) (hg : w.heap[g]? = some (.cells #[x0, x1, x2, x3, x4, x5, x6] 39 (0, 0)))
    (hR : R (.returned (.agg #[x0, x1, x2, x3, x4, x5, x6])) w) : bodyPost Tryz.prog fn R .ret a w := by
  refine ⟨hd, _, ?_, hR⟩
  exact results_cell_row h a.tmps w g _ _ _ _ hp hg Tryz.underlying39 rfl (by kernel_rfl)
theorem aat (w : World) (o : Obj) (k : Nat) (h : k = w.heap.size) : (w.alloc o).heap[k]? = some o := by rw [h]; exact alloc_new _ _
theorem set7' {w : World} {g : Nat} {a b c d e f h : Value} {t : TypeId} (hg : w.heap[g]? = some (.cells #[a, b, c, d, e, f, h] t (0, 0))) (v0 v1 v2 v3 v4 v5 v6 : Value) :
    (((((((w.setCell ⟨g, 0, none⟩ v0).setCell ⟨g, 1, none⟩ v1).setCell ⟨g, 2, none⟩ v2).setCell ⟨g, 3, none⟩ v3).setCell ⟨g, 4, none⟩ v4).setCell ⟨g, 5, none⟩ v5).setCell ⟨g, 6, none⟩ v6).heap[g]? = some (.cells #[v0, v1, v2, v3, v4, v5, v6] t (0, 0)) := by
  have h1 : (w.setCell ⟨g, 0, none⟩ v0).heap[g]? = some (.cells #[v0, b, c, d, e, f, h] t (0, 0)) := heap_setCell_same _ g 0 _ t v0 hg
  have h2 : ((w.setCell ⟨g, 0, none⟩ v0).setCell ⟨g, 1, none⟩ v1).heap[g]? = some (.cells #[v0, v1, c, d, e, f, h] t (0, 0)) := heap_setCell_same _ g 1 _ t v1 h1
  have h3 : (((w.setCell ⟨g, 0, none⟩ v0).setCell ⟨g, 1, none⟩ v1).setCell ⟨g, 2, none⟩ v2).heap[g]? = some (.cells #[v0, v1, v2, d, e, f, h] t (0, 0)) := heap_setCell_same _ g 2 _ t v2 h2
  have h4 : ((((w.setCell ⟨g, 0, none⟩ v0).setCell ⟨g, 1, none⟩ v1).setCell ⟨g, 2, none⟩ v2).setCell ⟨g, 3, none⟩ v3).heap[g]? = some (.cells #[v0, v1, v2, v3, e, f, h] t (0, 0)) := heap_setCell_same _ g 3 _ t v3 h3
  have h5 : (((((w.setCell ⟨g, 0, none⟩ v0).setCell ⟨g, 1, none⟩ v1).setCell ⟨g, 2, none⟩ v2).setCell ⟨g, 3, none⟩ v3).setCell ⟨g, 4, none⟩ v4).heap[g]? = some (.cells #[v0, v1, v2, v3, v4, f, h] t (0, 0)) := heap_setCell_same _ g 4 _ t v4 h4
  have h6 : ((((((w.setCell ⟨g, 0, none⟩ v0).setCell ⟨g, 1, none⟩ v1).setCell ⟨g, 2, none⟩ v2).setCell ⟨g, 3, none⟩ v3).setCell ⟨g, 4, none⟩ v4).setCell ⟨g, 5, none⟩ v5).heap[g]? = some (.cells #[v0, v1, v2, v3, v4, v5, h] t (0, 0)) := heap_setCell_same _ g 5 _ t v5 h5
  have h7 : (((((((w.setCell ⟨g, 0, none⟩ v0).setCell ⟨g, 1, none⟩ v1).setCell ⟨g, 2, none⟩ v2).setCell ⟨g, 3, none⟩ v3).setCell ⟨g, 4, none⟩ v4).setCell ⟨g, 5, none⟩ v5).setCell ⟨g, 6, none⟩ v6).heap[g]? = some (.cells #[v0, v1, v2, v3, v4, v5, v6] t (0, 0)) := heap_setCell_same _ g 6 _ t v6 h6
  exact h7
theorem fr7 (w : World) (g : Nat) (v0 v1 v2 v3 v4 v5 v6 : Value) : Fr (fun k => k = g) w (((((((w.setCell ⟨g, 0, none⟩ v0).setCell ⟨g, 1, none⟩ v1).setCell ⟨g, 2, none⟩ v2).setCell ⟨g, 3, none⟩ v3).setCell ⟨g, 4, none⟩ v4).setCell ⟨g, 5, none⟩ v5).setCell ⟨g, 6, none⟩ v6) := by
  have a0 := Fr.setCell w ⟨g, 0, none⟩ v0
  have a1 := a0.same (Fr.setCell _ ⟨g, 1, none⟩ v1)
  have a2 := a1.same (Fr.setCell _ ⟨g, 2, none⟩ v2)
  have a3 := a2.same (Fr.setCell _ ⟨g, 3, none⟩ v3)
  have a4 := a3.same (Fr.setCell _ ⟨g, 4, none⟩ v4)
  have a5 := a4.same (Fr.setCell _ ⟨g, 5, none⟩ v5)
  exact a5.same (Fr.setCell _ ⟨g, 6, none⟩ v6)
theorem ex7 {w : World} {b : Nat} {x0 x1 x2 x3 x4 x5 x6 : Value} {t : TypeId} (hb : w.heap[b]? = some (.cells #[x0, x1, x2, x3, x4, x5, x6] t (0, 0))) :
    w.cell? ⟨b, 0, none⟩ = some x0 ∧ w.cell? ⟨b, 1, none⟩ = some x1 ∧ w.cell? ⟨b, 2, none⟩ = some x2 ∧ w.cell? ⟨b, 3, none⟩ = some x3 ∧ w.cell? ⟨b, 4, none⟩ = some x4 ∧ w.cell? ⟨b, 5, none⟩ = some x5 ∧ w.cell? ⟨b, 6, none⟩ = some x6 :=
  ⟨cell_of_row _ _ 0 _ _ _ hb, cell_of_row _ _ 1 _ _ _ hb, cell_of_row _ _ 2 _ _ _ hb, cell_of_row _ _ 3 _ _ _ hb, cell_of_row _ _ 4 _ _ _ hb, cell_of_row _ _ 5 _ _ _ hb, cell_of_row _ _ 6 _ _ _ hb⟩
theorem load_x {w : World} {g : Nat} {h : EH} {v : Value} (hg : w.heap[g]? = some (xO h v)) : (loadVar 39 ⟨g, 0, none⟩).run Tryz.prog w = .ok (exV h v) w := run_loadVar_row _ _ _ _ _ _ _ hg Tryz.underlying39 rfl (by kernel_rfl)
set_option maxRecDepth 20000 in
set_option maxHeartbeats 4000000 in
theorem copyX_step (h : EH) (k : Exs) (hk : CxL k) : CxX h k := by
  intro ao cap w he hs hbd
  obtain ⟨W0, hW0⟩ : ∃ W, W = (w.alloc (xO h (.slice ao k.len cap))).alloc (xO ⟨0, 0, [], [], 0, 0⟩ (.slice none 0 0)) := ⟨_, rfl⟩
  have f0 : Fr (fun _ => False) w W0 := by rw [hW0]; exact (Fr.alloc _ _ _).same (Fr.alloc _ _ _)
  have hA : W0.heap[w.heap.size]? = some (xO h (.slice ao k.len cap)) := by rw [hW0]; exact (alloc_old _ _ _ (by simp)).trans (alloc_new _ _)
  have hB : Hidden (W0.heap[w.heap.size + 1]? = some (xO ⟨0, 0, [], [], 0, 0⟩ (.slice none 0 0))) := by rw [hW0]; exact aat _ _ _ (by simp)
  have hsz : Hidden (W0.heap.size = w.heap.size + 2) := by rw [hW0]; simp [Hidden]
  have hW0H : Hidden (W0 = _) := hW0
  have f0H : Hidden (Fr (fun _ => False) w W0) := f0
  have hAH : Hidden (W0.heap[w.heap.size]? = some (xO h (.slice ao k.len cap))) := hA
  have kc := hk ao cap W0 (he.keep f0) hs hbd
  have x6 : W0.cell? ⟨w.heap.size, 6, none⟩ = some (.slice ao k.len cap) := cell_of_row W0 _ 6 _ _ _ hA
  clear hW0 hA f0 he hs hbd
  go_enter Tryz.func25, Tryz.ntmps25
  go_upto_region 1 with fail
  rw [← (show W0 = _ from hW0H)]
  go_upto_region 2 with (go_at_call 24; refine kc.mono ?_; rintro e w1 ⟨v', rfl, hrow, f1⟩; obtain ⟨ao', cap', hv', hW⟩ := row_ex hrow; subst hv'; have hA1 : w1.heap[w.heap.size]? = some (xO h (.slice ao k.len cap)) := f1.heap hAH (fun f => f); have y6 : w1.cell? ⟨w.heap.size, 6, none⟩ = some (.slice ao k.len cap) := cell_of_row w1 _ 6 _ _ _ hA1; have z6 := frozen_r hA1 6; clear hrow)
  have hB1 := f1.heap hB (fun f => f)
  obtain ⟨w2, hw2⟩ : ∃ w2, w2 = w1.setCell ⟨w.heap.size, 6, none⟩ (.slice ao' k.len cap') := ⟨_, rfl⟩
  have f2 : Fr (fun b => b = w.heap.size) w1 w2 := by rw [hw2]; exact Fr.setCell w1 ⟨w.heap.size, 6, none⟩ _
  have hA2 : w2.heap[w.heap.size]? = some (xO h (.slice ao' k.len cap')) := by rw [hw2]; exact heap_setCell_same _ _ 6 _ _ _ hA1
  have hB2 : w2.heap[w.heap.size + 1]? = some (xO ⟨0, 0, [], [], 0, 0⟩ (.slice none 0 0)) := f2.heap hB1 (by omega)
  rw [← hw2]
  obtain ⟨p0, p1, p2, p3, p4, p5, p6⟩ := ex7 hA2
  obtain ⟨r0, r1, r2, r3, r4, r5, r6⟩ := ex7 hB2
  have i0 := frozen_r hB2 0
  have i1 := frozen_r hB2 1
  have i2 := frozen_r hB2 2
  have i3 := frozen_r hB2 3
  have i4 := frozen_r hB2 4
  have i5 := frozen_r hB2 5
  have i6 := frozen_r hB2 6
  obtain ⟨wE, hwE⟩ : ∃ wE, wE = ((((((w2.setCell ⟨w.heap.size + 1, 0, none⟩ (ci h.kind)).setCell ⟨w.heap.size + 1, 1, none⟩ (ci h.op)).setCell ⟨w.heap.size + 1, 2, none⟩ (ct h.mod)).setCell ⟨w.heap.size + 1, 3, none⟩ (ct h.name)).setCell ⟨w.heap.size + 1, 4, none⟩ (ci h.vt)).setCell ⟨w.heap.size + 1, 5, none⟩ (.int .u64 h.vb)).setCell ⟨w.heap.size + 1, 6, none⟩ (.slice ao' k.len cap') := ⟨_, rfl⟩
  have f3 : Fr (fun b => b = w.heap.size + 1) w2 wE := by rw [hwE]; exact fr7 _ _ _ _ _ _ _ _ _
  have hBE : wE.heap[w.heap.size + 1]? = some (xO h (.slice ao' k.len cap')) := by rw [hwE]; exact set7' hB2 _ _ _ _ _ _ _
  have hR2 : Hidden (Within w.heap.size wE.heap.size wE (fun u => ExL u ao' cap' k ∧ ShX u w.heap.size wE.heap.size ao' cap' k) ∧ Fr (fun _ => False) w wE) := by
    have hs : W0.heap.size = w.heap.size + 2 := hsz
    have s1 : w1.heap.size ≤ wE.heap.size := Nat.le_trans f2.size f3.size
    refine ⟨fun u hu => ?_, (((show Fr (fun _ => False) w W0 from f0H).same f1).over f2 (fun b e => by omega)).over f3 (fun b e => by omega)⟩
    have hag : Ag W0.heap.size w1.heap.size w1 u := fun b b1 b2 => (hu b (by omega) (by omega)).trans ((f3.block b (by have := f2.size; omega) (by omega)).trans (f2.block b b2 (by omega)))
    obtain ⟨e1, e2⟩ := hW u hag
    exact ⟨e1, e2.wide (by omega) s1⟩
  have hwEH : Hidden (wE = _) := hwE
  have hBEH : Hidden (wE.heap[w.heap.size + 1]? = some (xO h (.slice ao' k.len cap'))) := hBE
  clear hw2 f2 f3 hA2 hB2 hA1 hB1 hwE hBE hW y6 z6 x6 kc f1
  go_wp2_with fail
  rw [← (show wE = _ from hwEH)]
  exact post1x rfl rfl _ _ _ _ _ _ _ _ rfl hBEH ⟨ao', cap', rfl, (show _ ∧ _ from hR2).1, (show _ ∧ _ from hR2).2⟩
end Go.Proofs.YtncachlopnpcjaaGreatDoor.Sl
