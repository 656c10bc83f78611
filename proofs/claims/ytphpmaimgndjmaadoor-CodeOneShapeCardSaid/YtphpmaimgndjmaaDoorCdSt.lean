/- The law's steps: what an instruction takes and puts. -/
import Derived.Test.YtphpmaimgndjmaaDoorCdOs
import Derived.Test.YtphpmaimgndjmaaDoorCdLe
namespace Go.Proofs.YtphpmaimgndjmaaDoor.Cd
open Go.RowKit Ty
set_option linter.unusedSimpArgs false
set_option linter.unusedVariables false

/-- What is put: nothing, or one type in a row of its own. -/
def PutR (w' : World) (v : Value) (l : List Int) : Prop := (l = [] ∧ v = .slice none 0 0) ∨ ∃ g x, l = [x] ∧ v = .slice (some ⟨g, 0, none⟩) 1 1 ∧ w'.cell? ⟨g, 0, none⟩ = some (ci x)
theorem PutR.keep {w w' : World} {v : Value} {l : List Int} (h : PutR w v l) (f : Fr (fun _ => False) w w') : PutR w' v l := by
  rcases h with h | ⟨g, x, h1, h2, h3⟩
  · exact Or.inl h
  · exact Or.inr ⟨g, x, h1, h2, f.cellN h3⟩
set_option maxRecDepth 20000 in
set_option maxHeartbeats 2000000 in
theorem steps_3 (f : Fu) (p : Fm) (a0 a2 a3 a4 a5 : Option Addr) (c0 c2 c3 c4 c5 : Nat) (n t bb : Int) (so : Option Addr) (ns sc : Nat) (w : World)  :
    Calls Tryd.prog 10 #[inV ⟨3, n, t, bb⟩, .agg (fnV f a0 a2 a3 c0 c2 c3), .agg (fmV p a4 a5 c4 c5), .slice so ns sc] w fun e w' => ∃ v, e = .returned (.tuple #[ci 1, v, .bool true]) ∧ PutR w' v [] ∧ Fr (fun _ => False) w w' := by
  obtain ⟨V, hV⟩ : ∃ V, V = ((w.alloc (.cells #[ci 3, ci n, ci t, .int .u64 bb] 50 (0, 0))).alloc (.cells (fnV f a0 a2 a3 c0 c2 c3) 35 (0, 0))).alloc (.cells (fmV p a4 a5 c4 c5) 39 (0, 0)) := ⟨_, rfl⟩
  have fV : Fr (fun _ => False) w V := by rw [hV]; exact ((Fr.alloc _ _ _).same (Fr.alloc _ _ _)).same (Fr.alloc _ _ _)
  obtain ⟨i0, i1, i2, i3⟩ := box4 (show V.heap[w.heap.size]? = some (.cells #[ci 3, ci n, ci t, .int .u64 bb] 50 (0, 0)) by rw [hV]; exact (Fr.alloc (fun _ => False) _ _).heap (heap_alloc2_old _ _ _) (fun f => f))
  obtain ⟨y0, y1, y2, y3⟩ := box4 (show V.heap[w.heap.size + 1]? = some (.cells (fnV f a0 a2 a3 c0 c2 c3) 35 (0, 0)) by rw [hV]; exact (Fr.alloc (fun _ => False) _ _).heap (heap_alloc2_new _ _ _) (fun f => f))
  have hz : V.heap[w.heap.size + 1 + 1]? = some (.cells (fmV p a4 a5 c4 c5) 39 (0, 0)) := by rw [hV]; exact alloc_at _ _ _ (by simp)
  have z0 : V.cell? ⟨w.heap.size + 1 + 1, 0, none⟩ = some (.slice a4 p.fns.length c4) := cell_of_row _ _ 0 _ _ _ hz
  have z1 : V.cell? ⟨w.heap.size + 1 + 1, 1, none⟩ = some (.slice a5 p.vars.length c5) := cell_of_row _ _ 1 _ _ _ hz
  have hVH : Hidden (V = _) := hV
  have fVH : Hidden (Fr (fun _ => False) w V) := fV
  clear hV fV hz
  go_enter Tryd.func10, Tryd.ntmps10
  go_upto_region 1 with fail
  rw [← (show V = _ from hVH)]
  clear hVH
  go_wp2_with fail
  go_ret3
  exact ⟨_, rfl, Or.inl ⟨rfl, rfl⟩, fVH⟩
set_option maxRecDepth 20000 in
set_option maxHeartbeats 2000000 in
theorem steps_5 (f : Fu) (p : Fm) (a0 a2 a3 a4 a5 : Option Addr) (c0 c2 c3 c4 c5 : Nat) (n t bb : Int) (so : Option Addr) (ns sc : Nat) (w : World)  :
    Calls Tryd.prog 10 #[inV ⟨5, n, t, bb⟩, .agg (fnV f a0 a2 a3 c0 c2 c3), .agg (fmV p a4 a5 c4 c5), .slice so ns sc] w fun e w' => ∃ v, e = .returned (.tuple #[ci 1, v, .bool true]) ∧ PutR w' v [] ∧ Fr (fun _ => False) w w' := by
  obtain ⟨V, hV⟩ : ∃ V, V = ((w.alloc (.cells #[ci 5, ci n, ci t, .int .u64 bb] 50 (0, 0))).alloc (.cells (fnV f a0 a2 a3 c0 c2 c3) 35 (0, 0))).alloc (.cells (fmV p a4 a5 c4 c5) 39 (0, 0)) := ⟨_, rfl⟩
  have fV : Fr (fun _ => False) w V := by rw [hV]; exact ((Fr.alloc _ _ _).same (Fr.alloc _ _ _)).same (Fr.alloc _ _ _)
  obtain ⟨i0, i1, i2, i3⟩ := box4 (show V.heap[w.heap.size]? = some (.cells #[ci 5, ci n, ci t, .int .u64 bb] 50 (0, 0)) by rw [hV]; exact (Fr.alloc (fun _ => False) _ _).heap (heap_alloc2_old _ _ _) (fun f => f))
  obtain ⟨y0, y1, y2, y3⟩ := box4 (show V.heap[w.heap.size + 1]? = some (.cells (fnV f a0 a2 a3 c0 c2 c3) 35 (0, 0)) by rw [hV]; exact (Fr.alloc (fun _ => False) _ _).heap (heap_alloc2_new _ _ _) (fun f => f))
  have hz : V.heap[w.heap.size + 1 + 1]? = some (.cells (fmV p a4 a5 c4 c5) 39 (0, 0)) := by rw [hV]; exact alloc_at _ _ _ (by simp)
  have z0 : V.cell? ⟨w.heap.size + 1 + 1, 0, none⟩ = some (.slice a4 p.fns.length c4) := cell_of_row _ _ 0 _ _ _ hz
  have z1 : V.cell? ⟨w.heap.size + 1 + 1, 1, none⟩ = some (.slice a5 p.vars.length c5) := cell_of_row _ _ 1 _ _ _ hz
  have hVH : Hidden (V = _) := hV
  have fVH : Hidden (Fr (fun _ => False) w V) := fV
  clear hV fV hz
  go_enter Tryd.func10, Tryd.ntmps10
  go_upto_region 1 with fail
  rw [← (show V = _ from hVH)]
  clear hVH
  go_wp2_with fail
  go_ret3
  exact ⟨_, rfl, Or.inl ⟨rfl, rfl⟩, fVH⟩
set_option maxRecDepth 20000 in
set_option maxHeartbeats 2000000 in
theorem steps_12 (f : Fu) (p : Fm) (a0 a2 a3 a4 a5 : Option Addr) (c0 c2 c3 c4 c5 : Nat) (n t bb : Int) (so : Option Addr) (ns sc : Nat) (w : World)  :
    Calls Tryd.prog 10 #[inV ⟨12, n, t, bb⟩, .agg (fnV f a0 a2 a3 c0 c2 c3), .agg (fmV p a4 a5 c4 c5), .slice so ns sc] w fun e w' => ∃ v, e = .returned (.tuple #[ci 1, v, .bool true]) ∧ PutR w' v [] ∧ Fr (fun _ => False) w w' := by
  obtain ⟨V, hV⟩ : ∃ V, V = ((w.alloc (.cells #[ci 12, ci n, ci t, .int .u64 bb] 50 (0, 0))).alloc (.cells (fnV f a0 a2 a3 c0 c2 c3) 35 (0, 0))).alloc (.cells (fmV p a4 a5 c4 c5) 39 (0, 0)) := ⟨_, rfl⟩
  have fV : Fr (fun _ => False) w V := by rw [hV]; exact ((Fr.alloc _ _ _).same (Fr.alloc _ _ _)).same (Fr.alloc _ _ _)
  obtain ⟨i0, i1, i2, i3⟩ := box4 (show V.heap[w.heap.size]? = some (.cells #[ci 12, ci n, ci t, .int .u64 bb] 50 (0, 0)) by rw [hV]; exact (Fr.alloc (fun _ => False) _ _).heap (heap_alloc2_old _ _ _) (fun f => f))
  obtain ⟨y0, y1, y2, y3⟩ := box4 (show V.heap[w.heap.size + 1]? = some (.cells (fnV f a0 a2 a3 c0 c2 c3) 35 (0, 0)) by rw [hV]; exact (Fr.alloc (fun _ => False) _ _).heap (heap_alloc2_new _ _ _) (fun f => f))
  have hz : V.heap[w.heap.size + 1 + 1]? = some (.cells (fmV p a4 a5 c4 c5) 39 (0, 0)) := by rw [hV]; exact alloc_at _ _ _ (by simp)
  have z0 : V.cell? ⟨w.heap.size + 1 + 1, 0, none⟩ = some (.slice a4 p.fns.length c4) := cell_of_row _ _ 0 _ _ _ hz
  have z1 : V.cell? ⟨w.heap.size + 1 + 1, 1, none⟩ = some (.slice a5 p.vars.length c5) := cell_of_row _ _ 1 _ _ _ hz
  have hVH : Hidden (V = _) := hV
  have fVH : Hidden (Fr (fun _ => False) w V) := fV
  clear hV fV hz
  go_enter Tryd.func10, Tryd.ntmps10
  go_upto_region 1 with fail
  rw [← (show V = _ from hVH)]
  clear hVH
  go_wp2_with fail
  go_ret3
  exact ⟨_, rfl, Or.inl ⟨rfl, rfl⟩, fVH⟩
set_option maxRecDepth 20000 in
set_option maxHeartbeats 2000000 in
theorem steps_17 (f : Fu) (p : Fm) (a0 a2 a3 a4 a5 : Option Addr) (c0 c2 c3 c4 c5 : Nat) (n t bb : Int) (so : Option Addr) (ns sc : Nat) (w : World)  :
    Calls Tryd.prog 10 #[inV ⟨17, n, t, bb⟩, .agg (fnV f a0 a2 a3 c0 c2 c3), .agg (fmV p a4 a5 c4 c5), .slice so ns sc] w fun e w' => ∃ v, e = .returned (.tuple #[ci 1, v, .bool true]) ∧ PutR w' v [] ∧ Fr (fun _ => False) w w' := by
  obtain ⟨V, hV⟩ : ∃ V, V = ((w.alloc (.cells #[ci 17, ci n, ci t, .int .u64 bb] 50 (0, 0))).alloc (.cells (fnV f a0 a2 a3 c0 c2 c3) 35 (0, 0))).alloc (.cells (fmV p a4 a5 c4 c5) 39 (0, 0)) := ⟨_, rfl⟩
  have fV : Fr (fun _ => False) w V := by rw [hV]; exact ((Fr.alloc _ _ _).same (Fr.alloc _ _ _)).same (Fr.alloc _ _ _)
  obtain ⟨i0, i1, i2, i3⟩ := box4 (show V.heap[w.heap.size]? = some (.cells #[ci 17, ci n, ci t, .int .u64 bb] 50 (0, 0)) by rw [hV]; exact (Fr.alloc (fun _ => False) _ _).heap (heap_alloc2_old _ _ _) (fun f => f))
  obtain ⟨y0, y1, y2, y3⟩ := box4 (show V.heap[w.heap.size + 1]? = some (.cells (fnV f a0 a2 a3 c0 c2 c3) 35 (0, 0)) by rw [hV]; exact (Fr.alloc (fun _ => False) _ _).heap (heap_alloc2_new _ _ _) (fun f => f))
  have hz : V.heap[w.heap.size + 1 + 1]? = some (.cells (fmV p a4 a5 c4 c5) 39 (0, 0)) := by rw [hV]; exact alloc_at _ _ _ (by simp)
  have z0 : V.cell? ⟨w.heap.size + 1 + 1, 0, none⟩ = some (.slice a4 p.fns.length c4) := cell_of_row _ _ 0 _ _ _ hz
  have z1 : V.cell? ⟨w.heap.size + 1 + 1, 1, none⟩ = some (.slice a5 p.vars.length c5) := cell_of_row _ _ 1 _ _ _ hz
  have hVH : Hidden (V = _) := hV
  have fVH : Hidden (Fr (fun _ => False) w V) := fV
  clear hV fV hz
  go_enter Tryd.func10, Tryd.ntmps10
  go_upto_region 1 with fail
  rw [← (show V = _ from hVH)]
  clear hVH
  go_wp2_with fail
  go_ret3
  exact ⟨_, rfl, Or.inl ⟨rfl, rfl⟩, fVH⟩
set_option maxRecDepth 20000 in
set_option maxHeartbeats 2000000 in
theorem steps_8 (f : Fu) (p : Fm) (a0 a2 a3 a4 a5 : Option Addr) (c0 c2 c3 c4 c5 : Nat) (n t bb : Int) (so : Option Addr) (ns sc : Nat) (w : World)  :
    Calls Tryd.prog 10 #[inV ⟨8, n, t, bb⟩, .agg (fnV f a0 a2 a3 c0 c2 c3), .agg (fmV p a4 a5 c4 c5), .slice so ns sc] w fun e w' => ∃ v, e = .returned (.tuple #[ci 0, v, .bool false]) ∧ PutR w' v [] ∧ Fr (fun _ => False) w w' := by
  obtain ⟨V, hV⟩ : ∃ V, V = ((w.alloc (.cells #[ci 8, ci n, ci t, .int .u64 bb] 50 (0, 0))).alloc (.cells (fnV f a0 a2 a3 c0 c2 c3) 35 (0, 0))).alloc (.cells (fmV p a4 a5 c4 c5) 39 (0, 0)) := ⟨_, rfl⟩
  have fV : Fr (fun _ => False) w V := by rw [hV]; exact ((Fr.alloc _ _ _).same (Fr.alloc _ _ _)).same (Fr.alloc _ _ _)
  obtain ⟨i0, i1, i2, i3⟩ := box4 (show V.heap[w.heap.size]? = some (.cells #[ci 8, ci n, ci t, .int .u64 bb] 50 (0, 0)) by rw [hV]; exact (Fr.alloc (fun _ => False) _ _).heap (heap_alloc2_old _ _ _) (fun f => f))
  obtain ⟨y0, y1, y2, y3⟩ := box4 (show V.heap[w.heap.size + 1]? = some (.cells (fnV f a0 a2 a3 c0 c2 c3) 35 (0, 0)) by rw [hV]; exact (Fr.alloc (fun _ => False) _ _).heap (heap_alloc2_new _ _ _) (fun f => f))
  have hz : V.heap[w.heap.size + 1 + 1]? = some (.cells (fmV p a4 a5 c4 c5) 39 (0, 0)) := by rw [hV]; exact alloc_at _ _ _ (by simp)
  have z0 : V.cell? ⟨w.heap.size + 1 + 1, 0, none⟩ = some (.slice a4 p.fns.length c4) := cell_of_row _ _ 0 _ _ _ hz
  have z1 : V.cell? ⟨w.heap.size + 1 + 1, 1, none⟩ = some (.slice a5 p.vars.length c5) := cell_of_row _ _ 1 _ _ _ hz
  have hVH : Hidden (V = _) := hV
  have fVH : Hidden (Fr (fun _ => False) w V) := fV
  clear hV fV hz
  go_enter Tryd.func10, Tryd.ntmps10
  go_upto_region 1 with fail
  rw [← (show V = _ from hVH)]
  clear hVH
  go_wp2_with fail
  go_ret3
  exact ⟨_, rfl, Or.inl ⟨rfl, rfl⟩, fVH⟩
set_option maxRecDepth 20000 in
set_option maxHeartbeats 2000000 in
theorem steps_9 (f : Fu) (p : Fm) (a0 a2 a3 a4 a5 : Option Addr) (c0 c2 c3 c4 c5 : Nat) (n t bb : Int) (so : Option Addr) (ns sc : Nat) (w : World)  :
    Calls Tryd.prog 10 #[inV ⟨9, n, t, bb⟩, .agg (fnV f a0 a2 a3 c0 c2 c3), .agg (fmV p a4 a5 c4 c5), .slice so ns sc] w fun e w' => ∃ v, e = .returned (.tuple #[ci 0, v, .bool false]) ∧ PutR w' v [] ∧ Fr (fun _ => False) w w' := by
  obtain ⟨V, hV⟩ : ∃ V, V = ((w.alloc (.cells #[ci 9, ci n, ci t, .int .u64 bb] 50 (0, 0))).alloc (.cells (fnV f a0 a2 a3 c0 c2 c3) 35 (0, 0))).alloc (.cells (fmV p a4 a5 c4 c5) 39 (0, 0)) := ⟨_, rfl⟩
  have fV : Fr (fun _ => False) w V := by rw [hV]; exact ((Fr.alloc _ _ _).same (Fr.alloc _ _ _)).same (Fr.alloc _ _ _)
  obtain ⟨i0, i1, i2, i3⟩ := box4 (show V.heap[w.heap.size]? = some (.cells #[ci 9, ci n, ci t, .int .u64 bb] 50 (0, 0)) by rw [hV]; exact (Fr.alloc (fun _ => False) _ _).heap (heap_alloc2_old _ _ _) (fun f => f))
  obtain ⟨y0, y1, y2, y3⟩ := box4 (show V.heap[w.heap.size + 1]? = some (.cells (fnV f a0 a2 a3 c0 c2 c3) 35 (0, 0)) by rw [hV]; exact (Fr.alloc (fun _ => False) _ _).heap (heap_alloc2_new _ _ _) (fun f => f))
  have hz : V.heap[w.heap.size + 1 + 1]? = some (.cells (fmV p a4 a5 c4 c5) 39 (0, 0)) := by rw [hV]; exact alloc_at _ _ _ (by simp)
  have z0 : V.cell? ⟨w.heap.size + 1 + 1, 0, none⟩ = some (.slice a4 p.fns.length c4) := cell_of_row _ _ 0 _ _ _ hz
  have z1 : V.cell? ⟨w.heap.size + 1 + 1, 1, none⟩ = some (.slice a5 p.vars.length c5) := cell_of_row _ _ 1 _ _ _ hz
  have hVH : Hidden (V = _) := hV
  have fVH : Hidden (Fr (fun _ => False) w V) := fV
  clear hV fV hz
  go_enter Tryd.func10, Tryd.ntmps10
  go_upto_region 1 with fail
  rw [← (show V = _ from hVH)]
  clear hVH
  go_wp2_with fail
  go_ret3
  exact ⟨_, rfl, Or.inl ⟨rfl, rfl⟩, fVH⟩
set_option maxRecDepth 20000 in
set_option maxHeartbeats 2000000 in
theorem steps_11 (f : Fu) (p : Fm) (a0 a2 a3 a4 a5 : Option Addr) (c0 c2 c3 c4 c5 : Nat) (n t bb : Int) (so : Option Addr) (ns sc : Nat) (w : World)  :
    Calls Tryd.prog 10 #[inV ⟨11, n, t, bb⟩, .agg (fnV f a0 a2 a3 c0 c2 c3), .agg (fmV p a4 a5 c4 c5), .slice so ns sc] w fun e w' => ∃ v, e = .returned (.tuple #[ci 0, v, .bool false]) ∧ PutR w' v [] ∧ Fr (fun _ => False) w w' := by
  obtain ⟨V, hV⟩ : ∃ V, V = ((w.alloc (.cells #[ci 11, ci n, ci t, .int .u64 bb] 50 (0, 0))).alloc (.cells (fnV f a0 a2 a3 c0 c2 c3) 35 (0, 0))).alloc (.cells (fmV p a4 a5 c4 c5) 39 (0, 0)) := ⟨_, rfl⟩
  have fV : Fr (fun _ => False) w V := by rw [hV]; exact ((Fr.alloc _ _ _).same (Fr.alloc _ _ _)).same (Fr.alloc _ _ _)
  obtain ⟨i0, i1, i2, i3⟩ := box4 (show V.heap[w.heap.size]? = some (.cells #[ci 11, ci n, ci t, .int .u64 bb] 50 (0, 0)) by rw [hV]; exact (Fr.alloc (fun _ => False) _ _).heap (heap_alloc2_old _ _ _) (fun f => f))
  obtain ⟨y0, y1, y2, y3⟩ := box4 (show V.heap[w.heap.size + 1]? = some (.cells (fnV f a0 a2 a3 c0 c2 c3) 35 (0, 0)) by rw [hV]; exact (Fr.alloc (fun _ => False) _ _).heap (heap_alloc2_new _ _ _) (fun f => f))
  have hz : V.heap[w.heap.size + 1 + 1]? = some (.cells (fmV p a4 a5 c4 c5) 39 (0, 0)) := by rw [hV]; exact alloc_at _ _ _ (by simp)
  have z0 : V.cell? ⟨w.heap.size + 1 + 1, 0, none⟩ = some (.slice a4 p.fns.length c4) := cell_of_row _ _ 0 _ _ _ hz
  have z1 : V.cell? ⟨w.heap.size + 1 + 1, 1, none⟩ = some (.slice a5 p.vars.length c5) := cell_of_row _ _ 1 _ _ _ hz
  have hVH : Hidden (V = _) := hV
  have fVH : Hidden (Fr (fun _ => False) w V) := fV
  clear hV fV hz
  go_enter Tryd.func10, Tryd.ntmps10
  go_upto_region 1 with fail
  rw [← (show V = _ from hVH)]
  clear hVH
  go_wp2_with fail
  go_ret3
  exact ⟨_, rfl, Or.inl ⟨rfl, rfl⟩, fVH⟩
set_option maxRecDepth 20000 in
set_option maxHeartbeats 2000000 in
theorem steps_13 (f : Fu) (p : Fm) (a0 a2 a3 a4 a5 : Option Addr) (c0 c2 c3 c4 c5 : Nat) (n t bb : Int) (so : Option Addr) (ns sc : Nat) (w : World)  :
    Calls Tryd.prog 10 #[inV ⟨13, n, t, bb⟩, .agg (fnV f a0 a2 a3 c0 c2 c3), .agg (fmV p a4 a5 c4 c5), .slice so ns sc] w fun e w' => ∃ v, e = .returned (.tuple #[ci 0, v, .bool false]) ∧ PutR w' v [] ∧ Fr (fun _ => False) w w' := by
  obtain ⟨V, hV⟩ : ∃ V, V = ((w.alloc (.cells #[ci 13, ci n, ci t, .int .u64 bb] 50 (0, 0))).alloc (.cells (fnV f a0 a2 a3 c0 c2 c3) 35 (0, 0))).alloc (.cells (fmV p a4 a5 c4 c5) 39 (0, 0)) := ⟨_, rfl⟩
  have fV : Fr (fun _ => False) w V := by rw [hV]; exact ((Fr.alloc _ _ _).same (Fr.alloc _ _ _)).same (Fr.alloc _ _ _)
  obtain ⟨i0, i1, i2, i3⟩ := box4 (show V.heap[w.heap.size]? = some (.cells #[ci 13, ci n, ci t, .int .u64 bb] 50 (0, 0)) by rw [hV]; exact (Fr.alloc (fun _ => False) _ _).heap (heap_alloc2_old _ _ _) (fun f => f))
  obtain ⟨y0, y1, y2, y3⟩ := box4 (show V.heap[w.heap.size + 1]? = some (.cells (fnV f a0 a2 a3 c0 c2 c3) 35 (0, 0)) by rw [hV]; exact (Fr.alloc (fun _ => False) _ _).heap (heap_alloc2_new _ _ _) (fun f => f))
  have hz : V.heap[w.heap.size + 1 + 1]? = some (.cells (fmV p a4 a5 c4 c5) 39 (0, 0)) := by rw [hV]; exact alloc_at _ _ _ (by simp)
  have z0 : V.cell? ⟨w.heap.size + 1 + 1, 0, none⟩ = some (.slice a4 p.fns.length c4) := cell_of_row _ _ 0 _ _ _ hz
  have z1 : V.cell? ⟨w.heap.size + 1 + 1, 1, none⟩ = some (.slice a5 p.vars.length c5) := cell_of_row _ _ 1 _ _ _ hz
  have hVH : Hidden (V = _) := hV
  have fVH : Hidden (Fr (fun _ => False) w V) := fV
  clear hV fV hz
  go_enter Tryd.func10, Tryd.ntmps10
  go_upto_region 1 with fail
  rw [← (show V = _ from hVH)]
  clear hVH
  go_wp2_with fail
  go_ret3
  exact ⟨_, rfl, Or.inl ⟨rfl, rfl⟩, fVH⟩
set_option maxRecDepth 20000 in
set_option maxHeartbeats 2000000 in
theorem steps_15 (f : Fu) (p : Fm) (a0 a2 a3 a4 a5 : Option Addr) (c0 c2 c3 c4 c5 : Nat) (n t bb : Int) (so : Option Addr) (ns sc : Nat) (w : World)  :
    Calls Tryd.prog 10 #[inV ⟨15, n, t, bb⟩, .agg (fnV f a0 a2 a3 c0 c2 c3), .agg (fmV p a4 a5 c4 c5), .slice so ns sc] w fun e w' => ∃ v, e = .returned (.tuple #[ci 0, v, .bool true]) ∧ PutR w' v [] ∧ Fr (fun _ => False) w w' := by
  obtain ⟨V, hV⟩ : ∃ V, V = ((w.alloc (.cells #[ci 15, ci n, ci t, .int .u64 bb] 50 (0, 0))).alloc (.cells (fnV f a0 a2 a3 c0 c2 c3) 35 (0, 0))).alloc (.cells (fmV p a4 a5 c4 c5) 39 (0, 0)) := ⟨_, rfl⟩
  have fV : Fr (fun _ => False) w V := by rw [hV]; exact ((Fr.alloc _ _ _).same (Fr.alloc _ _ _)).same (Fr.alloc _ _ _)
  obtain ⟨i0, i1, i2, i3⟩ := box4 (show V.heap[w.heap.size]? = some (.cells #[ci 15, ci n, ci t, .int .u64 bb] 50 (0, 0)) by rw [hV]; exact (Fr.alloc (fun _ => False) _ _).heap (heap_alloc2_old _ _ _) (fun f => f))
  obtain ⟨y0, y1, y2, y3⟩ := box4 (show V.heap[w.heap.size + 1]? = some (.cells (fnV f a0 a2 a3 c0 c2 c3) 35 (0, 0)) by rw [hV]; exact (Fr.alloc (fun _ => False) _ _).heap (heap_alloc2_new _ _ _) (fun f => f))
  have hz : V.heap[w.heap.size + 1 + 1]? = some (.cells (fmV p a4 a5 c4 c5) 39 (0, 0)) := by rw [hV]; exact alloc_at _ _ _ (by simp)
  have z0 : V.cell? ⟨w.heap.size + 1 + 1, 0, none⟩ = some (.slice a4 p.fns.length c4) := cell_of_row _ _ 0 _ _ _ hz
  have z1 : V.cell? ⟨w.heap.size + 1 + 1, 1, none⟩ = some (.slice a5 p.vars.length c5) := cell_of_row _ _ 1 _ _ _ hz
  have hVH : Hidden (V = _) := hV
  have fVH : Hidden (Fr (fun _ => False) w V) := fV
  clear hV fV hz
  go_enter Tryd.func10, Tryd.ntmps10
  go_upto_region 1 with fail
  rw [← (show V = _ from hVH)]
  clear hVH
  go_wp2_with fail
  go_ret3
  exact ⟨_, rfl, Or.inl ⟨rfl, rfl⟩, fVH⟩
set_option maxRecDepth 20000 in
set_option maxHeartbeats 2000000 in
theorem steps_16 (f : Fu) (p : Fm) (a0 a2 a3 a4 a5 : Option Addr) (c0 c2 c3 c4 c5 : Nat) (n t bb : Int) (so : Option Addr) (ns sc : Nat) (w : World)  :
    Calls Tryd.prog 10 #[inV ⟨16, n, t, bb⟩, .agg (fnV f a0 a2 a3 c0 c2 c3), .agg (fmV p a4 a5 c4 c5), .slice so ns sc] w fun e w' => ∃ v, e = .returned (.tuple #[ci 0, v, .bool true]) ∧ PutR w' v [] ∧ Fr (fun _ => False) w w' := by
  obtain ⟨V, hV⟩ : ∃ V, V = ((w.alloc (.cells #[ci 16, ci n, ci t, .int .u64 bb] 50 (0, 0))).alloc (.cells (fnV f a0 a2 a3 c0 c2 c3) 35 (0, 0))).alloc (.cells (fmV p a4 a5 c4 c5) 39 (0, 0)) := ⟨_, rfl⟩
  have fV : Fr (fun _ => False) w V := by rw [hV]; exact ((Fr.alloc _ _ _).same (Fr.alloc _ _ _)).same (Fr.alloc _ _ _)
  obtain ⟨i0, i1, i2, i3⟩ := box4 (show V.heap[w.heap.size]? = some (.cells #[ci 16, ci n, ci t, .int .u64 bb] 50 (0, 0)) by rw [hV]; exact (Fr.alloc (fun _ => False) _ _).heap (heap_alloc2_old _ _ _) (fun f => f))
  obtain ⟨y0, y1, y2, y3⟩ := box4 (show V.heap[w.heap.size + 1]? = some (.cells (fnV f a0 a2 a3 c0 c2 c3) 35 (0, 0)) by rw [hV]; exact (Fr.alloc (fun _ => False) _ _).heap (heap_alloc2_new _ _ _) (fun f => f))
  have hz : V.heap[w.heap.size + 1 + 1]? = some (.cells (fmV p a4 a5 c4 c5) 39 (0, 0)) := by rw [hV]; exact alloc_at _ _ _ (by simp)
  have z0 : V.cell? ⟨w.heap.size + 1 + 1, 0, none⟩ = some (.slice a4 p.fns.length c4) := cell_of_row _ _ 0 _ _ _ hz
  have z1 : V.cell? ⟨w.heap.size + 1 + 1, 1, none⟩ = some (.slice a5 p.vars.length c5) := cell_of_row _ _ 1 _ _ _ hz
  have hVH : Hidden (V = _) := hV
  have fVH : Hidden (Fr (fun _ => False) w V) := fV
  clear hV fV hz
  go_enter Tryd.func10, Tryd.ntmps10
  go_upto_region 1 with fail
  rw [← (show V = _ from hVH)]
  clear hVH
  go_wp2_with fail
  go_ret3
  exact ⟨_, rfl, Or.inl ⟨rfl, rfl⟩, fVH⟩
set_option maxRecDepth 20000 in
set_option maxHeartbeats 2000000 in
theorem steps_14 (f : Fu) (p : Fm) (a0 a2 a3 a4 a5 : Option Addr) (c0 c2 c3 c4 c5 : Nat) (n t bb : Int) (so : Option Addr) (ns sc : Nat) (w : World)  :
    Calls Tryd.prog 10 #[inV ⟨14, n, t, bb⟩, .agg (fnV f a0 a2 a3 c0 c2 c3), .agg (fmV p a4 a5 c4 c5), .slice so ns sc] w fun e w' => ∃ v, e = .returned (.tuple #[ci 0, v, .bool true]) ∧ PutR w' v [1] ∧ Fr (fun _ => False) w w' := by
  obtain ⟨V, hV⟩ : ∃ V, V = ((w.alloc (.cells #[ci 14, ci n, ci t, .int .u64 bb] 50 (0, 0))).alloc (.cells (fnV f a0 a2 a3 c0 c2 c3) 35 (0, 0))).alloc (.cells (fmV p a4 a5 c4 c5) 39 (0, 0)) := ⟨_, rfl⟩
  have fV : Fr (fun _ => False) w V := by rw [hV]; exact ((Fr.alloc _ _ _).same (Fr.alloc _ _ _)).same (Fr.alloc _ _ _)
  obtain ⟨i0, i1, i2, i3⟩ := box4 (show V.heap[w.heap.size]? = some (.cells #[ci 14, ci n, ci t, .int .u64 bb] 50 (0, 0)) by rw [hV]; exact (Fr.alloc (fun _ => False) _ _).heap (heap_alloc2_old _ _ _) (fun f => f))
  obtain ⟨y0, y1, y2, y3⟩ := box4 (show V.heap[w.heap.size + 1]? = some (.cells (fnV f a0 a2 a3 c0 c2 c3) 35 (0, 0)) by rw [hV]; exact (Fr.alloc (fun _ => False) _ _).heap (heap_alloc2_new _ _ _) (fun f => f))
  have hz : V.heap[w.heap.size + 1 + 1]? = some (.cells (fmV p a4 a5 c4 c5) 39 (0, 0)) := by rw [hV]; exact alloc_at _ _ _ (by simp)
  have z0 : V.cell? ⟨w.heap.size + 1 + 1, 0, none⟩ = some (.slice a4 p.fns.length c4) := cell_of_row _ _ 0 _ _ _ hz
  have z1 : V.cell? ⟨w.heap.size + 1 + 1, 1, none⟩ = some (.slice a5 p.vars.length c5) := cell_of_row _ _ 1 _ _ _ hz
  have hVH : Hidden (V = _) := hV
  have fVH : Hidden (Fr (fun _ => False) w V) := fV
  clear hV fV hz
  go_enter Tryd.func10, Tryd.ntmps10
  go_upto_region 1 with fail
  rw [← (show V = _ from hVH)]
  clear hVH
  go_wp2_with fail
  go_ret3
  refine ⟨_, rfl, Or.inr ⟨_, _, rfl, rfl, cell_of_row _ _ 0 _ _ _ (alloc_new _ _)⟩, ?_⟩
  first
    | exact (show Fr (fun _ => False) w V from fVH).same (Fr.alloc _ _ _)
    | exact ((show Fr (fun _ => False) w V from fVH).same (Fr.drew _ _)).same (Fr.alloc _ _ _)
set_option maxRecDepth 20000 in
set_option maxHeartbeats 2000000 in
theorem steps_1 (f : Fu) (p : Fm) (a0 a2 a3 a4 a5 : Option Addr) (c0 c2 c3 c4 c5 : Nat) (n t bb : Int) (so : Option Addr) (ns sc : Nat) (w : World)  :
    Calls Tryd.prog 10 #[inV ⟨1, n, t, bb⟩, .agg (fnV f a0 a2 a3 c0 c2 c3), .agg (fmV p a4 a5 c4 c5), .slice so ns sc] w fun e w' => ∃ v, e = .returned (.tuple #[ci 0, v, .bool true]) ∧ PutR w' v [t] ∧ Fr (fun _ => False) w w' := by
  obtain ⟨V, hV⟩ : ∃ V, V = ((w.alloc (.cells #[ci 1, ci n, ci t, .int .u64 bb] 50 (0, 0))).alloc (.cells (fnV f a0 a2 a3 c0 c2 c3) 35 (0, 0))).alloc (.cells (fmV p a4 a5 c4 c5) 39 (0, 0)) := ⟨_, rfl⟩
  have fV : Fr (fun _ => False) w V := by rw [hV]; exact ((Fr.alloc _ _ _).same (Fr.alloc _ _ _)).same (Fr.alloc _ _ _)
  obtain ⟨i0, i1, i2, i3⟩ := box4 (show V.heap[w.heap.size]? = some (.cells #[ci 1, ci n, ci t, .int .u64 bb] 50 (0, 0)) by rw [hV]; exact (Fr.alloc (fun _ => False) _ _).heap (heap_alloc2_old _ _ _) (fun f => f))
  obtain ⟨y0, y1, y2, y3⟩ := box4 (show V.heap[w.heap.size + 1]? = some (.cells (fnV f a0 a2 a3 c0 c2 c3) 35 (0, 0)) by rw [hV]; exact (Fr.alloc (fun _ => False) _ _).heap (heap_alloc2_new _ _ _) (fun f => f))
  have hz : V.heap[w.heap.size + 1 + 1]? = some (.cells (fmV p a4 a5 c4 c5) 39 (0, 0)) := by rw [hV]; exact alloc_at _ _ _ (by simp)
  have z0 : V.cell? ⟨w.heap.size + 1 + 1, 0, none⟩ = some (.slice a4 p.fns.length c4) := cell_of_row _ _ 0 _ _ _ hz
  have z1 : V.cell? ⟨w.heap.size + 1 + 1, 1, none⟩ = some (.slice a5 p.vars.length c5) := cell_of_row _ _ 1 _ _ _ hz
  have hVH : Hidden (V = _) := hV
  have fVH : Hidden (Fr (fun _ => False) w V) := fV
  clear hV fV hz
  go_enter Tryd.func10, Tryd.ntmps10
  go_upto_region 1 with fail
  rw [← (show V = _ from hVH)]
  clear hVH
  go_upto_region 3 with fail
  go_region_held3 (fun w' => w'.cell? ⟨w.heap.size, 2, none⟩ = some (ci t)) (first | (with_reducible assumption) | go_keep) (fail)
  all_goals
    go_wp2_with fail
    go_ret3
    refine ⟨_, rfl, Or.inr ⟨_, _, rfl, rfl, cell_of_row _ _ 0 _ _ _ (alloc_new _ _)⟩, ?_⟩
    first
      | exact (show Fr (fun _ => False) w V from fVH).same (Fr.alloc _ _ _)
      | exact ((show Fr (fun _ => False) w V from fVH).same (Fr.drew _ _)).same (Fr.alloc _ _ _)
set_option maxRecDepth 20000 in
set_option maxHeartbeats 2000000 in
theorem steps_2 (f : Fu) (p : Fm) (a0 a2 a3 a4 a5 : Option Addr) (c0 c2 c3 c4 c5 : Nat) (k : Nat) (t bb : Int) (so : Option Addr) (ns sc : Nat) (w : World) (x : Int) (hI : InL w a2 c2 f.loc) (hx : f.loc[k]? = some x) :
    Calls Tryd.prog 10 #[inV ⟨2, (k : Int), t, bb⟩, .agg (fnV f a0 a2 a3 c0 c2 c3), .agg (fmV p a4 a5 c4 c5), .slice so ns sc] w fun e w' => ∃ v, e = .returned (.tuple #[ci 0, v, .bool true]) ∧ PutR w' v [x] ∧ Fr (fun _ => False) w w' := by
  obtain ⟨V, hV⟩ : ∃ V, V = ((w.alloc (.cells #[ci 2, ci (k : Int), ci t, .int .u64 bb] 50 (0, 0))).alloc (.cells (fnV f a0 a2 a3 c0 c2 c3) 35 (0, 0))).alloc (.cells (fmV p a4 a5 c4 c5) 39 (0, 0)) := ⟨_, rfl⟩
  have fV : Fr (fun _ => False) w V := by rw [hV]; exact ((Fr.alloc _ _ _).same (Fr.alloc _ _ _)).same (Fr.alloc _ _ _)
  obtain ⟨i0, i1, i2, i3⟩ := box4 (show V.heap[w.heap.size]? = some (.cells #[ci 2, ci (k : Int), ci t, .int .u64 bb] 50 (0, 0)) by rw [hV]; exact (Fr.alloc (fun _ => False) _ _).heap (heap_alloc2_old _ _ _) (fun f => f))
  obtain ⟨y0, y1, y2, y3⟩ := box4 (show V.heap[w.heap.size + 1]? = some (.cells (fnV f a0 a2 a3 c0 c2 c3) 35 (0, 0)) by rw [hV]; exact (Fr.alloc (fun _ => False) _ _).heap (heap_alloc2_new _ _ _) (fun f => f))
  have hz : V.heap[w.heap.size + 1 + 1]? = some (.cells (fmV p a4 a5 c4 c5) 39 (0, 0)) := by rw [hV]; exact alloc_at _ _ _ (by simp)
  have z0 : V.cell? ⟨w.heap.size + 1 + 1, 0, none⟩ = some (.slice a4 p.fns.length c4) := cell_of_row _ _ 0 _ _ _ hz
  have z1 : V.cell? ⟨w.heap.size + 1 + 1, 1, none⟩ = some (.slice a5 p.vars.length c5) := cell_of_row _ _ 1 _ _ _ hz
  have hVH : Hidden (V = _) := hV
  have fVH : Hidden (Fr (fun _ => False) w V) := fV
  obtain ⟨b, off, rfl, hc⟩ := hI.2.2.2.resolve_left (by rintro e; rw [e] at hx; simp at hx)
  have e0 := fV.cellN (hc k x hx)
  have hkn : (k : Int) < (f.loc.length : Int) := by have := (List.getElem?_eq_some_iff.1 hx).1; omega
  have hk0 : (0 : Int) ≤ (k : Int) := by omega
  clear hV fV hz hc hI hx
  go_enter Tryd.func10, Tryd.ntmps10
  go_upto_region 1 with fail
  rw [← (show V = _ from hVH)]
  clear hVH
  go_upto_region 5 with fail
  go_region_held3 (fun w' => w'.cell? ⟨w.heap.size + 1, 2, none⟩ = some (.slice (some ⟨b, off, none⟩) f.loc.length c2) ∧ w'.cell? ⟨w.heap.size, 1, none⟩ = some (ci (k : Int)) ∧ w'.cell? ⟨b, off + k, none⟩ = some (ci x)) (first | (refine ⟨by with_reducible assumption, by with_reducible assumption, by with_reducible assumption⟩) | go_keep) (fail)
  all_goals
    go_wp2_with fail
    go_ret3
    refine ⟨_, rfl, Or.inr ⟨_, _, rfl, rfl, cell_of_row _ _ 0 _ _ _ (alloc_new _ _)⟩, ?_⟩
    first
      | exact (show Fr (fun _ => False) w V from fVH).same (Fr.alloc _ _ _)
      | exact ((show Fr (fun _ => False) w V from fVH).same (Fr.drew _ _)).same (Fr.alloc _ _ _)
set_option maxRecDepth 20000 in
set_option maxHeartbeats 2000000 in
theorem steps_4 (f : Fu) (p : Fm) (a0 a2 a3 a4 a5 : Option Addr) (c0 c2 c3 c4 c5 : Nat) (k : Nat) (t bb : Int) (so : Option Addr) (ns sc : Nat) (w : World) (x : Int) (hI : InL w a5 c5 p.vars) (hx : p.vars[k]? = some x) :
    Calls Tryd.prog 10 #[inV ⟨4, (k : Int), t, bb⟩, .agg (fnV f a0 a2 a3 c0 c2 c3), .agg (fmV p a4 a5 c4 c5), .slice so ns sc] w fun e w' => ∃ v, e = .returned (.tuple #[ci 0, v, .bool true]) ∧ PutR w' v [x] ∧ Fr (fun _ => False) w w' := by
  obtain ⟨V, hV⟩ : ∃ V, V = ((w.alloc (.cells #[ci 4, ci (k : Int), ci t, .int .u64 bb] 50 (0, 0))).alloc (.cells (fnV f a0 a2 a3 c0 c2 c3) 35 (0, 0))).alloc (.cells (fmV p a4 a5 c4 c5) 39 (0, 0)) := ⟨_, rfl⟩
  have fV : Fr (fun _ => False) w V := by rw [hV]; exact ((Fr.alloc _ _ _).same (Fr.alloc _ _ _)).same (Fr.alloc _ _ _)
  obtain ⟨i0, i1, i2, i3⟩ := box4 (show V.heap[w.heap.size]? = some (.cells #[ci 4, ci (k : Int), ci t, .int .u64 bb] 50 (0, 0)) by rw [hV]; exact (Fr.alloc (fun _ => False) _ _).heap (heap_alloc2_old _ _ _) (fun f => f))
  obtain ⟨y0, y1, y2, y3⟩ := box4 (show V.heap[w.heap.size + 1]? = some (.cells (fnV f a0 a2 a3 c0 c2 c3) 35 (0, 0)) by rw [hV]; exact (Fr.alloc (fun _ => False) _ _).heap (heap_alloc2_new _ _ _) (fun f => f))
  have hz : V.heap[w.heap.size + 1 + 1]? = some (.cells (fmV p a4 a5 c4 c5) 39 (0, 0)) := by rw [hV]; exact alloc_at _ _ _ (by simp)
  have z0 : V.cell? ⟨w.heap.size + 1 + 1, 0, none⟩ = some (.slice a4 p.fns.length c4) := cell_of_row _ _ 0 _ _ _ hz
  have z1 : V.cell? ⟨w.heap.size + 1 + 1, 1, none⟩ = some (.slice a5 p.vars.length c5) := cell_of_row _ _ 1 _ _ _ hz
  have hVH : Hidden (V = _) := hV
  have fVH : Hidden (Fr (fun _ => False) w V) := fV
  obtain ⟨b, off, rfl, hc⟩ := hI.2.2.2.resolve_left (by rintro e; rw [e] at hx; simp at hx)
  have e0 := fV.cellN (hc k x hx)
  have hkn : (k : Int) < (p.vars.length : Int) := by have := (List.getElem?_eq_some_iff.1 hx).1; omega
  have hk0 : (0 : Int) ≤ (k : Int) := by omega
  clear hV fV hz hc hI hx
  go_enter Tryd.func10, Tryd.ntmps10
  go_upto_region 1 with fail
  rw [← (show V = _ from hVH)]
  clear hVH
  go_upto_region 7 with fail
  go_region_held3 (fun w' => w'.cell? ⟨w.heap.size + 1 + 1, 1, none⟩ = some (.slice (some ⟨b, off, none⟩) p.vars.length c5) ∧ w'.cell? ⟨w.heap.size, 1, none⟩ = some (ci (k : Int)) ∧ w'.cell? ⟨b, off + k, none⟩ = some (ci x)) (first | (refine ⟨by with_reducible assumption, by with_reducible assumption, by with_reducible assumption⟩) | go_keep) (fail)
  all_goals
    go_wp2_with fail
    go_ret3
    refine ⟨_, rfl, Or.inr ⟨_, _, rfl, rfl, cell_of_row _ _ 0 _ _ _ (alloc_new _ _)⟩, ?_⟩
    first
      | exact (show Fr (fun _ => False) w V from fVH).same (Fr.alloc _ _ _)
      | exact ((show Fr (fun _ => False) w V from fVH).same (Fr.drew _ _)).same (Fr.alloc _ _ _)
set_option maxRecDepth 20000 in
set_option maxHeartbeats 2000000 in
theorem steps_6 (f : Fu) (p : Fm) (a0 a2 a3 a4 a5 : Option Addr) (c0 c2 c3 c4 c5 : Nat) (n t bb : Int) (so : Option Addr) (ns sc : Nat) (w : World) (st : List Int) (x : Int) (m : Nat) (hI : InL w so sc st) (hx : st[m]? = some x) (hn : st.length = ns) (hm : ns = m + 1) (hb : ns ≤ 100000) :
    Calls Tryd.prog 10 #[inV ⟨6, n, t, bb⟩, .agg (fnV f a0 a2 a3 c0 c2 c3), .agg (fmV p a4 a5 c4 c5), .slice so ns sc] w fun e w' => ∃ v, e = .returned (.tuple #[ci 1, v, .bool true]) ∧ PutR w' v [(unS n x).1] ∧ Fr (fun _ => False) w w' := by
  obtain ⟨V, hV⟩ : ∃ V, V = ((w.alloc (.cells #[ci 6, ci n, ci t, .int .u64 bb] 50 (0, 0))).alloc (.cells (fnV f a0 a2 a3 c0 c2 c3) 35 (0, 0))).alloc (.cells (fmV p a4 a5 c4 c5) 39 (0, 0)) := ⟨_, rfl⟩
  have fV : Fr (fun _ => False) w V := by rw [hV]; exact ((Fr.alloc _ _ _).same (Fr.alloc _ _ _)).same (Fr.alloc _ _ _)
  obtain ⟨i0, i1, i2, i3⟩ := box4 (show V.heap[w.heap.size]? = some (.cells #[ci 6, ci n, ci t, .int .u64 bb] 50 (0, 0)) by rw [hV]; exact (Fr.alloc (fun _ => False) _ _).heap (heap_alloc2_old _ _ _) (fun f => f))
  obtain ⟨y0, y1, y2, y3⟩ := box4 (show V.heap[w.heap.size + 1]? = some (.cells (fnV f a0 a2 a3 c0 c2 c3) 35 (0, 0)) by rw [hV]; exact (Fr.alloc (fun _ => False) _ _).heap (heap_alloc2_new _ _ _) (fun f => f))
  have hz : V.heap[w.heap.size + 1 + 1]? = some (.cells (fmV p a4 a5 c4 c5) 39 (0, 0)) := by rw [hV]; exact alloc_at _ _ _ (by simp)
  have z0 : V.cell? ⟨w.heap.size + 1 + 1, 0, none⟩ = some (.slice a4 p.fns.length c4) := cell_of_row _ _ 0 _ _ _ hz
  have z1 : V.cell? ⟨w.heap.size + 1 + 1, 1, none⟩ = some (.slice a5 p.vars.length c5) := cell_of_row _ _ 1 _ _ _ hz
  have hVH : Hidden (V = _) := hV
  have fVH : Hidden (Fr (fun _ => False) w V) := fV
  obtain ⟨b, off, rfl, hc⟩ := hI.2.2.2.resolve_left (by rintro e; rw [e] at hx; simp at hx)
  have e0 := fV.cellN (hc m x hx)
  have ku := fun w => unary_any n x w
  have hkn : (m : Int) < (ns : Int) := by omega
  have hk0 : (0 : Int) ≤ (m : Int) := by omega
  have hs1 : decide ((ns : Int) < 1) = false := by simp; omega
  have hs2 : decide (ns < 1) = false := by simp; omega
  have hs3 : decide (ns = 0) = false := by simp; omega
  have hs4 : ¬ ns = 0 := by omega
  have hw1 : IntKind.i64.wrap ((ns : Int) - 1) = (m : Int) := by rw [IntKind.wrap_i64]; omega
  have hw2 : wrap64 ((ns : Int) - 1) = (m : Int) := by unfold wrap64; omega
  have hkH : Hidden (ns = m + 1) := hm
  generalize unS n x = R at ku ⊢
  clear hV fV hz hc hI hx hn hm hb
  go_enter Tryd.func10, Tryd.ntmps10
  go_upto_region 1 with fail
  rw [← (show V = _ from hVH)]
  clear hVH
  go_upto_region 16 with fail
  go_region_held3 (fun w' => w'.cell? ⟨w.heap.size, 1, none⟩ = some (ci n) ∧ w'.cell? ⟨b, off + m, none⟩ = some (ci x)) (first | (refine ⟨by with_reducible assumption, by with_reducible assumption⟩) | go_keep) (first
    | (go_at_call 20; refine (ku _).mono ?_; rintro e w1 ⟨rfl, f1⟩; have g1 : Fr (fun _ => False) V w1 := (by first | exact f1 | exact (Fr.drew _ _).same f1); have q1 := g1.cellN i1; have q2 := g1.cellN e0; have g1H : Hidden (Fr (fun _ => False) w w1) := (show Fr (fun _ => False) w V from fVH).same g1; clear f1 g1))
  all_goals
    go_wp2_with fail
    go_ret3
    refine ⟨_, rfl, Or.inr ⟨_, _, rfl, rfl, cell_of_row _ _ 0 _ _ _ (alloc_new _ _)⟩, ?_⟩
    first
      | exact (show Fr (fun _ => False) w w1 from g1H).same (Fr.alloc _ _ _)
      | exact ((show Fr (fun _ => False) w w1 from g1H).same (Fr.drew _ _)).same (Fr.alloc _ _ _)
set_option maxRecDepth 20000 in
set_option maxHeartbeats 2000000 in
theorem steps_7 (f : Fu) (p : Fm) (a0 a2 a3 a4 a5 : Option Addr) (c0 c2 c3 c4 c5 : Nat) (n t bb : Int) (so : Option Addr) (ns sc : Nat) (w : World) (st : List Int) (x u : Int) (m : Nat) (hI : InL w so sc st) (hx : st[m + 1]? = some x) (hu : st[m]? = some u) (hn : st.length = ns) (hm : ns = m + 2) (hb : ns ≤ 100000) :
    Calls Tryd.prog 10 #[inV ⟨7, n, t, bb⟩, .agg (fnV f a0 a2 a3 c0 c2 c3), .agg (fmV p a4 a5 c4 c5), .slice so ns sc] w fun e w' => ∃ v, e = .returned (.tuple #[ci 2, v, .bool true]) ∧ PutR w' v [(binS n u x).1] ∧ Fr (fun _ => False) w w' := by
  obtain ⟨V, hV⟩ : ∃ V, V = ((w.alloc (.cells #[ci 7, ci n, ci t, .int .u64 bb] 50 (0, 0))).alloc (.cells (fnV f a0 a2 a3 c0 c2 c3) 35 (0, 0))).alloc (.cells (fmV p a4 a5 c4 c5) 39 (0, 0)) := ⟨_, rfl⟩
  have fV : Fr (fun _ => False) w V := by rw [hV]; exact ((Fr.alloc _ _ _).same (Fr.alloc _ _ _)).same (Fr.alloc _ _ _)
  obtain ⟨i0, i1, i2, i3⟩ := box4 (show V.heap[w.heap.size]? = some (.cells #[ci 7, ci n, ci t, .int .u64 bb] 50 (0, 0)) by rw [hV]; exact (Fr.alloc (fun _ => False) _ _).heap (heap_alloc2_old _ _ _) (fun f => f))
  obtain ⟨y0, y1, y2, y3⟩ := box4 (show V.heap[w.heap.size + 1]? = some (.cells (fnV f a0 a2 a3 c0 c2 c3) 35 (0, 0)) by rw [hV]; exact (Fr.alloc (fun _ => False) _ _).heap (heap_alloc2_new _ _ _) (fun f => f))
  have hz : V.heap[w.heap.size + 1 + 1]? = some (.cells (fmV p a4 a5 c4 c5) 39 (0, 0)) := by rw [hV]; exact alloc_at _ _ _ (by simp)
  have z0 : V.cell? ⟨w.heap.size + 1 + 1, 0, none⟩ = some (.slice a4 p.fns.length c4) := cell_of_row _ _ 0 _ _ _ hz
  have z1 : V.cell? ⟨w.heap.size + 1 + 1, 1, none⟩ = some (.slice a5 p.vars.length c5) := cell_of_row _ _ 1 _ _ _ hz
  have hVH : Hidden (V = _) := hV
  have fVH : Hidden (Fr (fun _ => False) w V) := fV
  obtain ⟨b, off, rfl, hc⟩ := hI.2.2.2.resolve_left (by rintro e; rw [e] at hx; simp at hx)
  have e0 := fV.cellN (hc m u hu)
  have e1 := fV.cellN (hc (m + 1) x hx)
  obtain ⟨m1, hm1⟩ : ∃ m1, m1 = m + 1 := ⟨_, rfl⟩
  rw [← hm1] at e1
  have ku := fun w => binary_any n u x w
  have hkn : (m : Int) < (ns : Int) := by omega
  have hk0 : (0 : Int) ≤ (m : Int) := by omega
  have hkn1 : (m1 : Int) < (ns : Int) := by omega
  have hk01 : (0 : Int) ≤ (m1 : Int) := by omega
  have hs1 : decide ((ns : Int) < 2) = false := by simp; omega
  have hs2 : decide (ns < 2) = false := by simp; omega
  have hw1 : IntKind.i64.wrap ((ns : Int) - 1) = (m1 : Int) := by rw [IntKind.wrap_i64]; omega
  have hw2 : wrap64 ((ns : Int) - 1) = (m1 : Int) := by unfold wrap64; omega
  have hw3 : IntKind.i64.wrap ((ns : Int) - 2) = (m : Int) := by rw [IntKind.wrap_i64]; omega
  have hw4 : wrap64 ((ns : Int) - 2) = (m : Int) := by unfold wrap64; omega
  generalize binS n u x = R at ku ⊢
  clear hV fV hz hc hI hx hu hn hm hb hm1
  go_enter Tryd.func10, Tryd.ntmps10
  go_upto_region 1 with fail
  rw [← (show V = _ from hVH)]
  clear hVH
  go_upto_region 21 with fail
  go_region_held3 (fun w' => w'.cell? ⟨w.heap.size, 1, none⟩ = some (ci n) ∧ w'.cell? ⟨b, off + m, none⟩ = some (ci u) ∧ w'.cell? ⟨b, off + m1, none⟩ = some (ci x)) (first | (refine ⟨by with_reducible assumption, by with_reducible assumption, by with_reducible assumption⟩) | go_keep) (first
    | (go_at_call 21; refine (ku _).mono ?_; rintro e w1 ⟨rfl, f1⟩; have g1 : Fr (fun _ => False) V w1 := (by first | exact f1 | exact (Fr.drew _ _).same f1); have q1 := g1.cellN i1; have q2 := g1.cellN e0; have q3 := g1.cellN e1; have g1H : Hidden (Fr (fun _ => False) w w1) := (show Fr (fun _ => False) w V from fVH).same g1; clear f1 g1))
  all_goals
    go_wp2_with fail
    go_ret3
    refine ⟨_, rfl, Or.inr ⟨_, _, rfl, rfl, cell_of_row _ _ 0 _ _ _ (alloc_new _ _)⟩, ?_⟩
    first
      | exact (show Fr (fun _ => False) w w1 from g1H).same (Fr.alloc _ _ _)
      | exact ((show Fr (fun _ => False) w w1 from g1H).same (Fr.drew _ _)).same (Fr.alloc _ _ _)
set_option maxRecDepth 20000 in
set_option maxHeartbeats 2000000 in
theorem steps_10 (f : Fu) (p : Fm) (a0 a2 a3 a4 a5 : Option Addr) (c0 c2 c3 c4 c5 : Nat) (k : Nat) (t bb : Int) (so : Option Addr) (ns sc : Nat) (w : World) (g : Sg) (hS : SgL w a4 c4 p.fns) (hg : p.fns[k]? = some g) (hr : g.res = 0) :
    Calls Tryd.prog 10 #[inV ⟨10, (k : Int), t, bb⟩, .agg (fnV f a0 a2 a3 c0 c2 c3), .agg (fmV p a4 a5 c4 c5), .slice so ns sc] w fun e w' => ∃ v, e = .returned (.tuple #[ci g.ps.length, v, .bool true]) ∧ PutR w' v [] ∧ Fr (fun _ => False) w w' := by
  obtain ⟨V, hV⟩ : ∃ V, V = ((w.alloc (.cells #[ci 10, ci (k : Int), ci t, .int .u64 bb] 50 (0, 0))).alloc (.cells (fnV f a0 a2 a3 c0 c2 c3) 35 (0, 0))).alloc (.cells (fmV p a4 a5 c4 c5) 39 (0, 0)) := ⟨_, rfl⟩
  have fV : Fr (fun _ => False) w V := by rw [hV]; exact ((Fr.alloc _ _ _).same (Fr.alloc _ _ _)).same (Fr.alloc _ _ _)
  obtain ⟨i0, i1, i2, i3⟩ := box4 (show V.heap[w.heap.size]? = some (.cells #[ci 10, ci (k : Int), ci t, .int .u64 bb] 50 (0, 0)) by rw [hV]; exact (Fr.alloc (fun _ => False) _ _).heap (heap_alloc2_old _ _ _) (fun f => f))
  obtain ⟨y0, y1, y2, y3⟩ := box4 (show V.heap[w.heap.size + 1]? = some (.cells (fnV f a0 a2 a3 c0 c2 c3) 35 (0, 0)) by rw [hV]; exact (Fr.alloc (fun _ => False) _ _).heap (heap_alloc2_new _ _ _) (fun f => f))
  have hz : V.heap[w.heap.size + 1 + 1]? = some (.cells (fmV p a4 a5 c4 c5) 39 (0, 0)) := by rw [hV]; exact alloc_at _ _ _ (by simp)
  have z0 : V.cell? ⟨w.heap.size + 1 + 1, 0, none⟩ = some (.slice a4 p.fns.length c4) := cell_of_row _ _ 0 _ _ _ hz
  have z1 : V.cell? ⟨w.heap.size + 1 + 1, 1, none⟩ = some (.slice a5 p.vars.length c5) := cell_of_row _ _ 1 _ _ _ hz
  have hVH : Hidden (V = _) := hV
  have fVH : Hidden (Fr (fun _ => False) w V) := fV
  obtain ⟨b, off, rfl, hc⟩ := hS.2.2.2.resolve_left (by rintro e; rw [e] at hg; simp at hg)
  obtain ⟨ap, cp, hIp, h0, h1⟩ := hc k g hg
  have e0 := fV.cellN h0
  have e1 := fV.cellN h1
  have hkn : (k : Int) < (p.fns.length : Int) := by have := (List.getElem?_eq_some_iff.1 hg).1; omega
  have hk0 : (0 : Int) ≤ (k : Int) := by omega
  rw [hr] at e1
  clear hV fV hz hc hS hg hIp h0 h1 hr
  go_enter Tryd.func10, Tryd.ntmps10
  go_upto_region 1 with fail
  rw [← (show V = _ from hVH)]
  clear hVH
  go_wp2_with fail
  go_ret3
  exact ⟨_, rfl, Or.inl ⟨rfl, rfl⟩, (show Fr (fun _ => False) w V from fVH).same (Fr.alloc _ _ _)⟩
set_option maxRecDepth 20000 in
set_option maxHeartbeats 2000000 in
theorem steps_10r (f : Fu) (p : Fm) (a0 a2 a3 a4 a5 : Option Addr) (c0 c2 c3 c4 c5 : Nat) (k : Nat) (t bb : Int) (so : Option Addr) (ns sc : Nat) (w : World) (g : Sg) (hS : SgL w a4 c4 p.fns) (hg : p.fns[k]? = some g) (hr : g.res ≠ 0) :
    Calls Tryd.prog 10 #[inV ⟨10, (k : Int), t, bb⟩, .agg (fnV f a0 a2 a3 c0 c2 c3), .agg (fmV p a4 a5 c4 c5), .slice so ns sc] w fun e w' => ∃ v, e = .returned (.tuple #[ci g.ps.length, v, .bool true]) ∧ PutR w' v [g.res] ∧ Fr (fun _ => False) w w' := by
  obtain ⟨V, hV⟩ : ∃ V, V = ((w.alloc (.cells #[ci 10, ci (k : Int), ci t, .int .u64 bb] 50 (0, 0))).alloc (.cells (fnV f a0 a2 a3 c0 c2 c3) 35 (0, 0))).alloc (.cells (fmV p a4 a5 c4 c5) 39 (0, 0)) := ⟨_, rfl⟩
  have fV : Fr (fun _ => False) w V := by rw [hV]; exact ((Fr.alloc _ _ _).same (Fr.alloc _ _ _)).same (Fr.alloc _ _ _)
  obtain ⟨i0, i1, i2, i3⟩ := box4 (show V.heap[w.heap.size]? = some (.cells #[ci 10, ci (k : Int), ci t, .int .u64 bb] 50 (0, 0)) by rw [hV]; exact (Fr.alloc (fun _ => False) _ _).heap (heap_alloc2_old _ _ _) (fun f => f))
  obtain ⟨y0, y1, y2, y3⟩ := box4 (show V.heap[w.heap.size + 1]? = some (.cells (fnV f a0 a2 a3 c0 c2 c3) 35 (0, 0)) by rw [hV]; exact (Fr.alloc (fun _ => False) _ _).heap (heap_alloc2_new _ _ _) (fun f => f))
  have hz : V.heap[w.heap.size + 1 + 1]? = some (.cells (fmV p a4 a5 c4 c5) 39 (0, 0)) := by rw [hV]; exact alloc_at _ _ _ (by simp)
  have z0 : V.cell? ⟨w.heap.size + 1 + 1, 0, none⟩ = some (.slice a4 p.fns.length c4) := cell_of_row _ _ 0 _ _ _ hz
  have z1 : V.cell? ⟨w.heap.size + 1 + 1, 1, none⟩ = some (.slice a5 p.vars.length c5) := cell_of_row _ _ 1 _ _ _ hz
  have hVH : Hidden (V = _) := hV
  have fVH : Hidden (Fr (fun _ => False) w V) := fV
  obtain ⟨b, off, rfl, hc⟩ := hS.2.2.2.resolve_left (by rintro e; rw [e] at hg; simp at hg)
  obtain ⟨ap, cp, hIp, h0, h1⟩ := hc k g hg
  have e0 := fV.cellN h0
  have e1 := fV.cellN h1
  have hkn : (k : Int) < (p.fns.length : Int) := by have := (List.getElem?_eq_some_iff.1 hg).1; omega
  have hk0 : (0 : Int) ≤ (k : Int) := by omega
  have hb1 : (g.res == 0) = false := by simpa using hr
  have hb2 : (g.res != 0) = true := by simpa using hr
  generalize g.res = rs at *
  clear hV fV hz hc hS hg hIp h0 h1 hr
  go_enter Tryd.func10, Tryd.ntmps10
  go_upto_region 1 with fail
  rw [← (show V = _ from hVH)]
  clear hVH
  go_upto_region 27 with fail
  have fU : Hidden (Fr (fun _ => False) w (V.alloc (.cells #[.slice ap g.ps.length cp, ci rs] 32 (0, 0)))) := (show Fr (fun _ => False) w V from fVH).same (Fr.alloc _ _ _)
  have u0 : (V.alloc (.cells #[.slice ap g.ps.length cp, ci rs] 32 (0, 0))).cell? ⟨V.heap.size, 0, none⟩ = some (.slice ap g.ps.length cp) := cell_of_row _ _ 0 _ _ _ (alloc_new _ _)
  have u1 : (V.alloc (.cells #[.slice ap g.ps.length cp, ci rs] 32 (0, 0))).cell? ⟨V.heap.size, 1, none⟩ = some (ci rs) := cell_of_row _ _ 1 _ _ _ (alloc_new _ _)
  generalize V.alloc (.cells #[.slice ap g.ps.length cp, ci rs] 32 (0, 0)) = U at *
  generalize V.heap.size = gs at *
  clear e0 e1 i0 i1 i2 i3 y0 y1 y2 y3 z0 z1
  go_region_held3 (fun w' => w'.cell? ⟨gs, 0, none⟩ = some (.slice ap g.ps.length cp) ∧ w'.cell? ⟨gs, 1, none⟩ = some (ci rs)) (first | (refine ⟨by with_reducible assumption, by with_reducible assumption⟩) | go_keep) (fail)
  all_goals
    go_wp2_with fail
    go_ret3
    refine ⟨_, rfl, Or.inr ⟨_, _, rfl, rfl, cell_of_row _ _ 0 _ _ _ (alloc_new _ _)⟩, ?_⟩
    first
      | exact (show Fr (fun _ => False) w U from fU).same (Fr.alloc _ _ _)
      | exact ((show Fr (fun _ => False) w U from fU).same (Fr.drew _ _)).same (Fr.alloc _ _ _)
end Go.Proofs.YtphpmaimgndjmaaDoor.Cd
