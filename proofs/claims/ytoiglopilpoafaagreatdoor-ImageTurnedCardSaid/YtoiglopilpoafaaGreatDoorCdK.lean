/- What the site has: has. -/
import Derived.Test.YtoiglopilpoafaaGreatDoorPk15
import Derived.Test.YtoiglopilpoafaaGreatDoorPk14
import Derived.Test.YtoiglopilpoafaaGreatDoorPk11
import Derived.Deep.DeepCutAuto
namespace Go.Proofs.YtoiglopilpoafaaGreatDoor.Cd
open Go.RowKit Ty
set_option linter.unusedSimpArgs false
set_option linter.unusedVariables false

/-- The six cells of a site. -/
structure Si (w : World) (q : Nat) (v0 : Value) (r : Int) (a2 a3 a4 a5 : Option Addr) (n2 n3 n4 n5 c2 c3 c4 c5 : Nat) : Prop where
  c0 : w.cell? ⟨q, 0, none⟩ = some v0
  c1 : w.cell? ⟨q, 1, none⟩ = some (ci r)
  c2 : w.cell? ⟨q, 2, none⟩ = some (.slice a2 n2 c2)
  c3 : w.cell? ⟨q, 3, none⟩ = some (.slice a3 n3 c3)
  c4 : w.cell? ⟨q, 4, none⟩ = some (.slice a4 n4 c4)
  c5 : w.cell? ⟨q, 5, none⟩ = some (.slice a5 n5 c5)
theorem Si.keep {w w' : World} {q : Nat} {v0 : Value} {r : Int} {a2 a3 a4 a5 : Option Addr} {n2 n3 n4 n5 c2 c3 c4 c5 : Nat} (h : Si w q v0 r a2 a3 a4 a5 n2 n3 n4 n5 c2 c3 c4 c5) (f : Fr (fun _ => False) w w') : Si w' q v0 r a2 a3 a4 a5 n2 n3 n4 n5 c2 c3 c4 c5 :=
  ⟨f.cellN h.c0, f.cellN h.c1, f.cellN h.c2, f.cellN h.c3, f.cellN h.c4, f.cellN h.c5⟩
def hasS (nu N : Int) (n2 n3 n4 n5 : Nat) : Bool :=
  if nu = 0 then true else if nu = 1 then decide (N < n2) else if nu = 2 then decide (N < n5) else if nu = 3 then decide (N < n4) else decide (N < n3)
set_option maxRecDepth 20000 in
set_option maxHeartbeats 2000000 in
theorem has_any (q : Nat) (v0 : Value) (r : Int) (a2 a3 a4 a5 : Option Addr) (n2 n3 n4 n5 c2 c3 c4 c5 : Nat) (op N t b nu : Int) (hnu : nu = 0 ∨ nu = 1 ∨ nu = 2 ∨ nu = 3 ∨ nu = 4) (w : World) (h : Si w q v0 r a2 a3 a4 a5 n2 n3 n4 n5 c2 c3 c4 c5) :
    Calls Tryz.prog 93 #[.pointer (some ⟨q, 0, none⟩), .agg #[ci op, ci N, ci t, .int .u64 b], ci nu] w fun e w' => e = .returned (.bool (hasS nu N n2 n3 n4 n5)) ∧ Fr (fun _ => False) w w' := by
  obtain ⟨V, hV⟩ : ∃ V, V = w.alloc (.cells #[ci op, ci N, ci t, .int .u64 b] 69 (0, 0)) := ⟨_, rfl⟩
  have fV : Fr (fun _ => False) w V := by rw [hV]; exact Fr.alloc _ _ _
  have k1 : V.cell? ⟨w.heap.size, 1, none⟩ = some (ci N) := (box4 (show V.heap[w.heap.size]? = some (.cells #[ci op, ci N, ci t, .int .u64 b] 69 (0, 0)) by rw [hV]; exact alloc_new _ _)).2.1
  have d2 := fV.cellN h.c2
  have d3 := fV.cellN h.c3
  have d4 := fV.cellN h.c4
  have d5 := fV.cellN h.c5
  have x2 := World.new_ne V _ d2
  have x1 := World.new_ne V _ k1
  have fVH : Hidden (Fr (fun _ => False) w V) := fV
  clear h fV
  obtain ⟨R, hR⟩ : ∃ R, R = hasS nu N n2 n3 n4 n5 := ⟨_, rfl⟩
  rw [← hR]
  have hRH : Hidden (R = hasS nu N n2 n3 n4 n5) := hR
  clear hR
  go_enter Tryz.func93, Tryz.ntmps93
  go_upto_region 1 with fail
  rw [← hV]
  clear hV
  go_cut [7] (fun pv wx => ∃ g, pv = .pointer (some ⟨g, 0, none⟩) ∧ wx.heap[g]? = some (.cells #[ci 0, ci (n2 : Int), ci (n5 : Int), ci (n4 : Int), ci (n3 : Int)] 178 (0, 0)) ∧ Fr (fun _ => False) V wx)
  case first =>
    go_region_held3 (fun w' => w'.cell? ⟨q, 2, none⟩ = some (.slice a2 n2 c2) ∧ w'.cell? ⟨q, 3, none⟩ = some (.slice a3 n3 c3) ∧ w'.cell? ⟨q, 4, none⟩ = some (.slice a4 n4 c4) ∧ w'.cell? ⟨q, 5, none⟩ = some (.slice a5 n5 c5)) (first | (refine ⟨?_, ?_, ?_, ?_⟩ <;> (repeat (first | (with_reducible assumption) | (refine (Fr.drew (fun _ => False) _).cellN ?_) | (refine (Fr.alloc (fun _ => False) _ _).cellN ?_)))) | go_keep) (fail)
    go_wp2_with fail
    go_meet
    exact ⟨_, rfl, (Fr.drew (fun _ => False) _).heap (alloc_new _ _) (fun f => f), (Fr.alloc _ _ _).same (Fr.drew _ _)⟩
  case rest =>
    obtain ⟨g, rfl, hg, fc⟩ := hcut
    have y0 := cell_of_row _ _ 0 _ _ _ hg
    have y1 : wc.cell? ⟨g, 1, none⟩ = some (ci (n2 : Int)) := cell_of_row _ _ 1 _ _ _ hg
    have y2 : wc.cell? ⟨g, 2, none⟩ = some (ci (n5 : Int)) := cell_of_row _ _ 2 _ _ _ hg
    have y3 : wc.cell? ⟨g, 3, none⟩ = some (ci (n4 : Int)) := cell_of_row _ _ 3 _ _ _ hg
    have y4 : wc.cell? ⟨g, 4, none⟩ = some (ci (n3 : Int)) := cell_of_row _ _ 4 _ _ _ hg
    replace k1 := fc.cellN k1
    have fwc : Hidden (Fr (fun _ => False) w wc) := (show Fr (fun _ => False) w V from fVH).same fc
    clear hg fc d2 d3 d4 d5 x1 x2 y0
    go_upto_region 2 with fail
    refine wp_region_grow (by kernel_rfl) (by kernel_rfl) ?_
    rcases hnu with rfl | rfl | rfl | rfl | rfl
    all_goals
      (repeat (first | (refine grow_op (v := ?_) ?_ ?_ ?_; rotate_left; (focus (first | exact wanted_none rfl | (go_simp; done))); (focus (intro w' hw'; have k1 := hw'.cellN k1; have y1 := hw'.cellN y1; have y2 := hw'.cellN y2; have y3 := hw'.cellN y3; have y4 := hw'.cellN y4; (go_simp; with_reducible rfl))); (intro a' ha; simp only [Act.put, List.setIfInBounds_toArray, List.set_cons_zero, List.set_cons_succ] at ha; subst ha)) | (refine grow_no ?_ ?_; (focus (first | (go_simp; done) | rfl)); (intro a' ha; simp only [Act.put, List.setIfInBounds_toArray, List.set_cons_zero, List.set_cons_succ] at ha; subst ha)))); refine grow_nil ?_; intro w2 q2
      go_wp2_with fail
      go_ret
      refine ⟨?_, (show Fr (fun _ => False) w wc from fwc).same q2⟩
      rw [show R = _ from hRH]
      rfl
end Go.Proofs.YtoiglopilpoafaaGreatDoor.Cd
