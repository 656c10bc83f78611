/- The table of the Ops. -/
import Derived.Test.YtoiglopilpoafaaGreatDoorPk10
import Derived.Test.YtoiglopilpoafaaGreatDoorPk11
namespace Go.Proofs.YtoiglopilpoafaaGreatDoor.Cd
open Go.RowKit Ty
set_option linter.unusedSimpArgs false
set_option linter.unusedVariables false

def nmR (op : Int) : Bs := if known op then nmS op else []
def byR (op : Int) : Int := if op = 1 then 9 else (wd op : Int)
def nuR (op : Int) : Int := if op = 2 ∨ op = 3 then 1 else if op = 4 ∨ op = 5 then 2 else if op = 8 ∨ op = 9 ∨ op = 15 then 4 else if op = 10 then 3 else 0
def taR (op : Int) : Int := if op = 3 ∨ op = 5 then 6 else if op = 6 ∨ op = 12 ∨ op = 17 then 1 else if op = 7 then 2 else if op = 9 then 4 else if op = 10 then 7 else if op = 11 then 9 else if op = 13 then 3 else 0
def puR (op : Int) : Int := if op = 1 then 5 else if op = 2 ∨ op = 4 then 6 else if op = 6 ∨ op = 7 then 10 else if op = 10 then 8 else if op = 14 then 3 else 0
def trR (op : Int) : Int := if op = 15 then 1 else if op = 16 then -1 else 0
def enR (op : Int) : Bool := decide (op = 8 ∨ op = 11 ∨ op = 13)
def rwA (op : Int) : Array Value := #[ct (nmR op), ci (byR op), ci (lo op), ci (hi op), ci (nuR op), ci (taR op), ci (puR op), ci (trR op), .bool (enR op)]
theorem rw_1 : rwA 1 = #[ct [112, 117, 115, 104], ci 9, ci 0, ci 0, ci 0, ci 0, ci 5, ci 0, .bool false] := by rfl
theorem rw_2 : rwA 2 = #[ct [103, 101, 116], ci 1, ci 0, ci 255, ci 1, ci 0, ci 6, ci 0, .bool false] := by rfl
theorem rw_3 : rwA 3 = #[ct [112, 117, 116], ci 1, ci 0, ci 255, ci 1, ci 6, ci 0, ci 0, .bool false] := by rfl
theorem rw_4 : rwA 4 = #[ct [108, 111, 97, 100], ci 2, ci 0, ci 65535, ci 2, ci 0, ci 6, ci 0, .bool false] := by rfl
theorem rw_5 : rwA 5 = #[ct [115, 116, 111, 114, 101], ci 2, ci 0, ci 65535, ci 2, ci 6, ci 0, ci 0, .bool false] := by rfl
theorem rw_6 : rwA 6 = #[ct [117, 110], ci 1, ci 1, ci 4, ci 0, ci 1, ci 10, ci 0, .bool false] := by rfl
theorem rw_7 : rwA 7 = #[ct [98, 105, 110], ci 1, ci 1, ci 11, ci 0, ci 2, ci 10, ci 0, .bool false] := by rfl
theorem rw_8 : rwA 8 = #[ct [106, 117, 109, 112], ci 2, ci 0, ci 65535, ci 4, ci 0, ci 0, ci 0, .bool true] := by rfl
theorem rw_9 : rwA 9 = #[ct [117, 110, 108, 101, 115, 115], ci 2, ci 0, ci 65535, ci 4, ci 4, ci 0, ci 0, .bool false] := by rfl
theorem rw_10 : rwA 10 = #[ct [99, 97, 108, 108], ci 2, ci 0, ci 65535, ci 3, ci 7, ci 8, ci 0, .bool false] := by rfl
theorem rw_11 : rwA 11 = #[ct [114, 101, 116, 117, 114, 110], ci 0, ci 0, ci 0, ci 0, ci 9, ci 0, ci 0, .bool true] := by rfl
theorem rw_12 : rwA 12 = #[ct [115, 104, 111, 119], ci 0, ci 0, ci 0, ci 0, ci 1, ci 0, ci 0, .bool false] := by rfl
theorem rw_13 : rwA 13 = #[ct [102, 97, 105, 108], ci 0, ci 0, ci 0, ci 0, ci 3, ci 0, ci 0, .bool true] := by rfl
theorem rw_14 : rwA 14 = #[ct [105, 110, 112, 117, 116], ci 0, ci 0, ci 0, ci 0, ci 0, ci 3, ci 0, .bool false] := by rfl
theorem rw_15 : rwA 15 = #[ct [116, 114, 121], ci 2, ci 0, ci 65535, ci 4, ci 0, ci 0, ci 1, .bool false] := by rfl
theorem rw_16 : rwA 16 = #[ct [117, 110, 116, 114, 121], ci 0, ci 0, ci 0, ci 0, ci 0, ci 0, ci (-1), .bool false] := by rfl
theorem rw_17 : rwA 17 = #[ct [100, 114, 111, 112], ci 0, ci 0, ci 0, ci 0, ci 1, ci 0, ci 0, .bool false] := by rfl
/-- The results of a function whose first one lies in memory. -/
theorem post_cs {fn : Func} {R : Ending → World → Prop} {a : Act} {w : World} {p u : Tmp} {ty : TypeId} (h : fn.results = #[.cell p ty, .tmp u]) (hd : a.defers = []) (g : Nat) (cs : Array Value)
    (hp : a.tmps.getD p undef = .pointer (some ⟨g, 0, none⟩)) (hl : (loadVar ty ⟨g, 0, none⟩).run Tryz.prog w = .ok (.agg cs) w)
    (hR : R (.returned (.tuple #[.agg cs, a.tmps.getD u undef])) w) : bodyPost Tryz.prog fn R .ret a w := by
  refine ⟨hd, _, ?_, hR⟩
  rw [results_cell_tmp h, hp]
  simp [asAddr, hl, Result.andThen]
def bigA : Array Value := #[ct [], ci 0, ci 0, ci 0, ci 0, ci 0, ci 0, ci 0, .bool false, ct [112, 117, 115, 104], ci 9, ci 0, ci 0, ci 0, ci 0, ci 5, ci 0, .bool false, ct [103, 101, 116], ci 1, ci 0, ci 255, ci 1, ci 0, ci 6, ci 0, .bool false, ct [112, 117, 116], ci 1, ci 0, ci 255, ci 1, ci 6, ci 0, ci 0, .bool false, ct [108, 111, 97, 100], ci 2, ci 0, ci 65535, ci 2, ci 0, ci 6, ci 0, .bool false, ct [115, 116, 111, 114, 101], ci 2, ci 0, ci 65535, ci 2, ci 6, ci 0, ci 0, .bool false, ct [117, 110], ci 1, ci 1, ci 4, ci 0, ci 1, ci 10, ci 0, .bool false, ct [98, 105, 110], ci 1, ci 1, ci 11, ci 0, ci 2, ci 10, ci 0, .bool false, ct [106, 117, 109, 112], ci 2, ci 0, ci 65535, ci 4, ci 0, ci 0, ci 0, .bool true, ct [117, 110, 108, 101, 115, 115], ci 2, ci 0, ci 65535, ci 4, ci 4, ci 0, ci 0, .bool false, ct [99, 97, 108, 108], ci 2, ci 0, ci 65535, ci 3, ci 7, ci 8, ci 0, .bool false, ct [114, 101, 116, 117, 114, 110], ci 0, ci 0, ci 0, ci 0, ci 9, ci 0, ci 0, .bool true, ct [115, 104, 111, 119], ci 0, ci 0, ci 0, ci 0, ci 1, ci 0, ci 0, .bool false, ct [102, 97, 105, 108], ci 0, ci 0, ci 0, ci 0, ci 3, ci 0, ci 0, .bool true, ct [105, 110, 112, 117, 116], ci 0, ci 0, ci 0, ci 0, ci 0, ci 3, ci 0, .bool false, ct [116, 114, 121], ci 2, ci 0, ci 65535, ci 4, ci 0, ci 0, ci 1, .bool false, ct [117, 110, 116, 114, 121], ci 0, ci 0, ci 0, ci 0, ci 0, ci 0, ci (-1), .bool false, ct [100, 114, 111, 112], ci 0, ci 0, ci 0, ci 0, ci 1, ci 0, ci 0, .bool false]
def zeroA : Array Value := #[ct [], ci 0, ci 0, ci 0, ci 0, ci 0, ci 0, ci 0, .bool false, ct [], ci 0, ci 0, ci 0, ci 0, ci 0, ci 0, ci 0, .bool false, ct [], ci 0, ci 0, ci 0, ci 0, ci 0, ci 0, ci 0, .bool false, ct [], ci 0, ci 0, ci 0, ci 0, ci 0, ci 0, ci 0, .bool false, ct [], ci 0, ci 0, ci 0, ci 0, ci 0, ci 0, ci 0, .bool false, ct [], ci 0, ci 0, ci 0, ci 0, ci 0, ci 0, ci 0, .bool false, ct [], ci 0, ci 0, ci 0, ci 0, ci 0, ci 0, ci 0, .bool false, ct [], ci 0, ci 0, ci 0, ci 0, ci 0, ci 0, ci 0, .bool false, ct [], ci 0, ci 0, ci 0, ci 0, ci 0, ci 0, ci 0, .bool false, ct [], ci 0, ci 0, ci 0, ci 0, ci 0, ci 0, ci 0, .bool false, ct [], ci 0, ci 0, ci 0, ci 0, ci 0, ci 0, ci 0, .bool false, ct [], ci 0, ci 0, ci 0, ci 0, ci 0, ci 0, ci 0, .bool false, ct [], ci 0, ci 0, ci 0, ci 0, ci 0, ci 0, ci 0, .bool false, ct [], ci 0, ci 0, ci 0, ci 0, ci 0, ci 0, ci 0, .bool false, ct [], ci 0, ci 0, ci 0, ci 0, ci 0, ci 0, ci 0, .bool false, ct [], ci 0, ci 0, ci 0, ci 0, ci 0, ci 0, ci 0, .bool false, ct [], ci 0, ci 0, ci 0, ci 0, ci 0, ci 0, ci 0, .bool false, ct [], ci 0, ci 0, ci 0, ci 0, ci 0, ci 0, ci 0, .bool false]
theorem nine_put {w : World} {g : Nat} {x0 x1 x2 x3 x4 x5 x6 x7 x8 : Value} {t : TypeId} (h : w.heap[g]? = some (.cells #[x0, x1, x2, x3, x4, x5, x6, x7, x8] t (0, 0))) (v0 v1 v2 v3 v4 v5 v6 v7 v8 : Value) :
    (((((((((w.setCell ⟨g, 0, none⟩ v0).setCell ⟨g, 1, none⟩ v1).setCell ⟨g, 2, none⟩ v2).setCell ⟨g, 3, none⟩ v3).setCell ⟨g, 4, none⟩ v4).setCell ⟨g, 5, none⟩ v5).setCell ⟨g, 6, none⟩ v6).setCell ⟨g, 7, none⟩ v7).setCell ⟨g, 8, none⟩ v8).heap[g]? = some (.cells #[v0, v1, v2, v3, v4, v5, v6, v7, v8] t (0, 0)) := by
  have h0 : (w.setCell ⟨g, 0, none⟩ v0).heap[g]? = some (.cells #[v0, x1, x2, x3, x4, x5, x6, x7, x8] t (0, 0)) := heap_setCell_same _ g 0 _ t v0 h
  have h1 : ((w.setCell ⟨g, 0, none⟩ v0).setCell ⟨g, 1, none⟩ v1).heap[g]? = some (.cells #[v0, v1, x2, x3, x4, x5, x6, x7, x8] t (0, 0)) := heap_setCell_same _ g 1 _ t v1 h0
  have h2 : (((w.setCell ⟨g, 0, none⟩ v0).setCell ⟨g, 1, none⟩ v1).setCell ⟨g, 2, none⟩ v2).heap[g]? = some (.cells #[v0, v1, v2, x3, x4, x5, x6, x7, x8] t (0, 0)) := heap_setCell_same _ g 2 _ t v2 h1
  have h3 : ((((w.setCell ⟨g, 0, none⟩ v0).setCell ⟨g, 1, none⟩ v1).setCell ⟨g, 2, none⟩ v2).setCell ⟨g, 3, none⟩ v3).heap[g]? = some (.cells #[v0, v1, v2, v3, x4, x5, x6, x7, x8] t (0, 0)) := heap_setCell_same _ g 3 _ t v3 h2
  have h4 : (((((w.setCell ⟨g, 0, none⟩ v0).setCell ⟨g, 1, none⟩ v1).setCell ⟨g, 2, none⟩ v2).setCell ⟨g, 3, none⟩ v3).setCell ⟨g, 4, none⟩ v4).heap[g]? = some (.cells #[v0, v1, v2, v3, v4, x5, x6, x7, x8] t (0, 0)) := heap_setCell_same _ g 4 _ t v4 h3
  have h5 : ((((((w.setCell ⟨g, 0, none⟩ v0).setCell ⟨g, 1, none⟩ v1).setCell ⟨g, 2, none⟩ v2).setCell ⟨g, 3, none⟩ v3).setCell ⟨g, 4, none⟩ v4).setCell ⟨g, 5, none⟩ v5).heap[g]? = some (.cells #[v0, v1, v2, v3, v4, v5, x6, x7, x8] t (0, 0)) := heap_setCell_same _ g 5 _ t v5 h4
  have h6 : (((((((w.setCell ⟨g, 0, none⟩ v0).setCell ⟨g, 1, none⟩ v1).setCell ⟨g, 2, none⟩ v2).setCell ⟨g, 3, none⟩ v3).setCell ⟨g, 4, none⟩ v4).setCell ⟨g, 5, none⟩ v5).setCell ⟨g, 6, none⟩ v6).heap[g]? = some (.cells #[v0, v1, v2, v3, v4, v5, v6, x7, x8] t (0, 0)) := heap_setCell_same _ g 6 _ t v6 h5
  have h7 : ((((((((w.setCell ⟨g, 0, none⟩ v0).setCell ⟨g, 1, none⟩ v1).setCell ⟨g, 2, none⟩ v2).setCell ⟨g, 3, none⟩ v3).setCell ⟨g, 4, none⟩ v4).setCell ⟨g, 5, none⟩ v5).setCell ⟨g, 6, none⟩ v6).setCell ⟨g, 7, none⟩ v7).heap[g]? = some (.cells #[v0, v1, v2, v3, v4, v5, v6, v7, x8] t (0, 0)) := heap_setCell_same _ g 7 _ t v7 h6
  have h8 : (((((((((w.setCell ⟨g, 0, none⟩ v0).setCell ⟨g, 1, none⟩ v1).setCell ⟨g, 2, none⟩ v2).setCell ⟨g, 3, none⟩ v3).setCell ⟨g, 4, none⟩ v4).setCell ⟨g, 5, none⟩ v5).setCell ⟨g, 6, none⟩ v6).setCell ⟨g, 7, none⟩ v7).setCell ⟨g, 8, none⟩ v8).heap[g]? = some (.cells #[v0, v1, v2, v3, v4, v5, v6, v7, v8] t (0, 0)) := heap_setCell_same _ g 8 _ t v8 h7
  exact h8
theorem nine_at (w : World) (g : Nat) (v0 v1 v2 v3 v4 v5 v6 v7 v8 : Value) :
    Fr (fun k => k = g) w (((((((((w.setCell ⟨g, 0, none⟩ v0).setCell ⟨g, 1, none⟩ v1).setCell ⟨g, 2, none⟩ v2).setCell ⟨g, 3, none⟩ v3).setCell ⟨g, 4, none⟩ v4).setCell ⟨g, 5, none⟩ v5).setCell ⟨g, 6, none⟩ v6).setCell ⟨g, 7, none⟩ v7).setCell ⟨g, 8, none⟩ v8) :=
  ((((((((Fr.setCell w ⟨g, 0, none⟩ v0).same (Fr.setCell _ ⟨g, 1, none⟩ v1)).same (Fr.setCell _ ⟨g, 2, none⟩ v2)).same (Fr.setCell _ ⟨g, 3, none⟩ v3)).same (Fr.setCell _ ⟨g, 4, none⟩ v4)).same (Fr.setCell _ ⟨g, 5, none⟩ v5)).same (Fr.setCell _ ⟨g, 6, none⟩ v6)).same (Fr.setCell _ ⟨g, 7, none⟩ v7)).same (Fr.setCell _ ⟨g, 8, none⟩ v8)
theorem info_row : (Tryz.prog.info? 136).map (·.size) = some 9 := by kernel_rfl
set_option maxRecDepth 100000 in
set_option maxHeartbeats 4000000 in
theorem row_any (op : Int) (w : World) : Calls Tryz.prog 71 #[ci op] w fun e w' => e = .returned (.tuple #[.agg (rwA op), .bool (known op)]) ∧ Fr (fun _ => False) w w' := by
  have key : (known op = true ∧ (op = 1 ∨ op = 2 ∨ op = 3 ∨ op = 4 ∨ op = 5 ∨ op = 6 ∨ op = 7 ∨ op = 8 ∨ op = 9 ∨ op = 10 ∨ op = 11 ∨ op = 12 ∨ op = 13 ∨ op = 14 ∨ op = 15 ∨ op = 16 ∨ op = 17)) ∨ (known op = false ∧ (op < 1 ∨ 18 ≤ op)) := by
    by_cases h : known op = true
    · exact Or.inl ⟨h, (known_iff op).1 h⟩
    · refine Or.inr ⟨by simpa using h, ?_⟩
      simp only [known, decide_eq_true_eq] at h
      omega
  go_enter Tryz.func71, Tryz.ntmps71
  go_upto_region 1 with fail
  apply wp_region_lit
  refine wpl_build rfl _ _ rfl #[ct [112, 117, 115, 104], ci 9, ci 0, ci 0, ci 0, ci 0, ci 5, ci 0, .bool false] (by kernel_rfl) ?_
  intro a' ha; simp only [Act.put, List.setIfInBounds_toArray, List.set_cons_zero, List.set_cons_succ] at ha; subst ha
  refine wpl_build rfl _ _ rfl #[ct [103, 101, 116], ci 1, ci 0, ci 255, ci 1, ci 0, ci 6, ci 0, .bool false] (by kernel_rfl) ?_
  intro a' ha; simp only [Act.put, List.setIfInBounds_toArray, List.set_cons_zero, List.set_cons_succ] at ha; subst ha
  refine wpl_build rfl _ _ rfl #[ct [112, 117, 116], ci 1, ci 0, ci 255, ci 1, ci 6, ci 0, ci 0, .bool false] (by kernel_rfl) ?_
  intro a' ha; simp only [Act.put, List.setIfInBounds_toArray, List.set_cons_zero, List.set_cons_succ] at ha; subst ha
  refine wpl_build rfl _ _ rfl #[ct [108, 111, 97, 100], ci 2, ci 0, ci 65535, ci 2, ci 0, ci 6, ci 0, .bool false] (by kernel_rfl) ?_
  intro a' ha; simp only [Act.put, List.setIfInBounds_toArray, List.set_cons_zero, List.set_cons_succ] at ha; subst ha
  refine wpl_build rfl _ _ rfl #[ct [115, 116, 111, 114, 101], ci 2, ci 0, ci 65535, ci 2, ci 6, ci 0, ci 0, .bool false] (by kernel_rfl) ?_
  intro a' ha; simp only [Act.put, List.setIfInBounds_toArray, List.set_cons_zero, List.set_cons_succ] at ha; subst ha
  refine wpl_build rfl _ _ rfl #[ct [117, 110], ci 1, ci 1, ci 4, ci 0, ci 1, ci 10, ci 0, .bool false] (by kernel_rfl) ?_
  intro a' ha; simp only [Act.put, List.setIfInBounds_toArray, List.set_cons_zero, List.set_cons_succ] at ha; subst ha
  refine wpl_build rfl _ _ rfl #[ct [98, 105, 110], ci 1, ci 1, ci 11, ci 0, ci 2, ci 10, ci 0, .bool false] (by kernel_rfl) ?_
  intro a' ha; simp only [Act.put, List.setIfInBounds_toArray, List.set_cons_zero, List.set_cons_succ] at ha; subst ha
  refine wpl_build rfl _ _ rfl #[ct [106, 117, 109, 112], ci 2, ci 0, ci 65535, ci 4, ci 0, ci 0, ci 0, .bool true] (by kernel_rfl) ?_
  intro a' ha; simp only [Act.put, List.setIfInBounds_toArray, List.set_cons_zero, List.set_cons_succ] at ha; subst ha
  refine wpl_build rfl _ _ rfl #[ct [117, 110, 108, 101, 115, 115], ci 2, ci 0, ci 65535, ci 4, ci 4, ci 0, ci 0, .bool false] (by kernel_rfl) ?_
  intro a' ha; simp only [Act.put, List.setIfInBounds_toArray, List.set_cons_zero, List.set_cons_succ] at ha; subst ha
  refine wpl_build rfl _ _ rfl #[ct [99, 97, 108, 108], ci 2, ci 0, ci 65535, ci 3, ci 7, ci 8, ci 0, .bool false] (by kernel_rfl) ?_
  intro a' ha; simp only [Act.put, List.setIfInBounds_toArray, List.set_cons_zero, List.set_cons_succ] at ha; subst ha
  refine wpl_build rfl _ _ rfl #[ct [114, 101, 116, 117, 114, 110], ci 0, ci 0, ci 0, ci 0, ci 9, ci 0, ci 0, .bool true] (by kernel_rfl) ?_
  intro a' ha; simp only [Act.put, List.setIfInBounds_toArray, List.set_cons_zero, List.set_cons_succ] at ha; subst ha
  refine wpl_build rfl _ _ rfl #[ct [115, 104, 111, 119], ci 0, ci 0, ci 0, ci 0, ci 1, ci 0, ci 0, .bool false] (by kernel_rfl) ?_
  intro a' ha; simp only [Act.put, List.setIfInBounds_toArray, List.set_cons_zero, List.set_cons_succ] at ha; subst ha
  refine wpl_build rfl _ _ rfl #[ct [102, 97, 105, 108], ci 0, ci 0, ci 0, ci 0, ci 3, ci 0, ci 0, .bool true] (by kernel_rfl) ?_
  intro a' ha; simp only [Act.put, List.setIfInBounds_toArray, List.set_cons_zero, List.set_cons_succ] at ha; subst ha
  refine wpl_build rfl _ _ rfl #[ct [105, 110, 112, 117, 116], ci 0, ci 0, ci 0, ci 0, ci 0, ci 3, ci 0, .bool false] (by kernel_rfl) ?_
  intro a' ha; simp only [Act.put, List.setIfInBounds_toArray, List.set_cons_zero, List.set_cons_succ] at ha; subst ha
  refine wpl_build rfl _ _ rfl #[ct [116, 114, 121], ci 2, ci 0, ci 65535, ci 4, ci 0, ci 0, ci 1, .bool false] (by kernel_rfl) ?_
  intro a' ha; simp only [Act.put, List.setIfInBounds_toArray, List.set_cons_zero, List.set_cons_succ] at ha; subst ha
  refine wpl_build rfl _ _ rfl #[ct [117, 110, 116, 114, 121], ci 0, ci 0, ci 0, ci 0, ci 0, ci 0, ci (-1), .bool false] (by kernel_rfl) ?_
  intro a' ha; simp only [Act.put, List.setIfInBounds_toArray, List.set_cons_zero, List.set_cons_succ] at ha; subst ha
  refine wpl_build rfl _ _ rfl #[ct [100, 114, 111, 112], ci 0, ci 0, ci 0, ci 0, ci 1, ci 0, ci 0, .bool false] (by kernel_rfl) ?_
  intro a' ha; simp only [Act.put, List.setIfInBounds_toArray, List.set_cons_zero, List.set_cons_succ] at ha; subst ha
  refine wpl_build rfl _ _ rfl bigA (by kernel_rfl) ?_
  intro a' ha; simp only [Act.put, List.setIfInBounds_toArray, List.set_cons_zero, List.set_cons_succ] at ha; subst ha
  obtain ⟨W0, hW0⟩ : ∃ W, W = w.alloc (.cells #[ct [], ci 0, ci 0, ci 0, ci 0, ci 0, ci 0, ci 0, .bool false] 136 (0, 0)) := ⟨_, rfl⟩
  have hz : Hidden (W0.heap[w.heap.size]? = some (.cells #[ct [], ci 0, ci 0, ci 0, ci 0, ci 0, ci 0, ci 0, .bool false] 136 (0, 0))) := by rw [hW0]; exact alloc_new _ _
  have hf0 : Hidden (Fr (fun _ => False) w W0) := by rw [hW0]; exact Fr.alloc _ _ _
  rw [← hW0]
  clear hW0
  refine wpl_alloc rfl (.pointer (some ⟨W0.heap.size, 0, none⟩)) (.cells zeroA 165 (0, 0)) (by kernel_rfl) ?_
  intro a' ha; simp only [Act.put, List.setIfInBounds_toArray, List.set_cons_zero, List.set_cons_succ] at ha; subst ha
  refine wpl_store rfl _ _ _ rfl bigA zeroA _ rfl rfl (by kernel_rfl) rfl (by kernel_rfl) ?_
  intro a' ha; simp only [Act.put, List.setIfInBounds_toArray, List.set_cons_zero, List.set_cons_succ] at ha; subst ha
  obtain ⟨W1, hW1⟩ : ∃ W, W = W0.alloc (.cells bigA 165 (0, 0)) := ⟨_, rfl⟩
  have hr : Hidden (W1.heap[W0.heap.size]? = some (.cells bigA 165 (0, 0))) := by rw [hW1]; exact alloc_new _ _
  have hf1 : Hidden (Fr (fun _ => False) w W1) := by rw [hW1]; exact (show Fr _ _ _ from hf0).same (Fr.alloc _ _ _)
  have hz1 : Hidden (W1.heap[w.heap.size]? = some (.cells #[ct [], ci 0, ci 0, ci 0, ci 0, ci 0, ci 0, ci 0, .bool false] 136 (0, 0))) := by rw [hW1]; exact (Fr.alloc (fun _ => False) _ _).heap (show W0.heap[w.heap.size]? = _ from hz) (fun f => f)
  rw [← hW1]
  clear hW1 hz hf0
  generalize W0.heap.size = g1 at *
  have z0 := cell_of_row _ _ 0 _ _ _ (show W1.heap[w.heap.size]? = _ from hz1)
  have y0 := frozen_of_row (show W1.heap[w.heap.size]? = _ from hz1) 0
  have z1 := cell_of_row _ _ 1 _ _ _ (show W1.heap[w.heap.size]? = _ from hz1)
  have y1 := frozen_of_row (show W1.heap[w.heap.size]? = _ from hz1) 1
  have z2 := cell_of_row _ _ 2 _ _ _ (show W1.heap[w.heap.size]? = _ from hz1)
  have y2 := frozen_of_row (show W1.heap[w.heap.size]? = _ from hz1) 2
  have z3 := cell_of_row _ _ 3 _ _ _ (show W1.heap[w.heap.size]? = _ from hz1)
  have y3 := frozen_of_row (show W1.heap[w.heap.size]? = _ from hz1) 3
  have z4 := cell_of_row _ _ 4 _ _ _ (show W1.heap[w.heap.size]? = _ from hz1)
  have y4 := frozen_of_row (show W1.heap[w.heap.size]? = _ from hz1) 4
  have z5 := cell_of_row _ _ 5 _ _ _ (show W1.heap[w.heap.size]? = _ from hz1)
  have y5 := frozen_of_row (show W1.heap[w.heap.size]? = _ from hz1) 5
  have z6 := cell_of_row _ _ 6 _ _ _ (show W1.heap[w.heap.size]? = _ from hz1)
  have y6 := frozen_of_row (show W1.heap[w.heap.size]? = _ from hz1) 6
  have z7 := cell_of_row _ _ 7 _ _ _ (show W1.heap[w.heap.size]? = _ from hz1)
  have y7 := frozen_of_row (show W1.heap[w.heap.size]? = _ from hz1) 7
  have z8 := cell_of_row _ _ 8 _ _ _ (show W1.heap[w.heap.size]? = _ from hz1)
  have y8 := frozen_of_row (show W1.heap[w.heap.size]? = _ from hz1) 8
  rcases key with ⟨hk, key⟩ | ⟨hk, key⟩
  · rcases key with rfl | rfl | rfl | rfl | rfl | rfl | rfl | rfl | rfl | rfl | rfl | rfl | rfl | rfl | rfl | rfl | rfl
    · have hkk := rw_1
      clear hkk
      have c0 : W1.cell? ⟨g1, 9, none⟩ = some (ct [112, 117, 115, 104]) := cell_of_row _ _ 9 _ _ _ (show W1.heap[g1]? = _ from hr)
      have c1 : W1.cell? ⟨g1, 10, none⟩ = some (ci 9) := cell_of_row _ _ 10 _ _ _ (show W1.heap[g1]? = _ from hr)
      have c2 : W1.cell? ⟨g1, 11, none⟩ = some (ci 0) := cell_of_row _ _ 11 _ _ _ (show W1.heap[g1]? = _ from hr)
      have c3 : W1.cell? ⟨g1, 12, none⟩ = some (ci 0) := cell_of_row _ _ 12 _ _ _ (show W1.heap[g1]? = _ from hr)
      have c4 : W1.cell? ⟨g1, 13, none⟩ = some (ci 0) := cell_of_row _ _ 13 _ _ _ (show W1.heap[g1]? = _ from hr)
      have c5 : W1.cell? ⟨g1, 14, none⟩ = some (ci 0) := cell_of_row _ _ 14 _ _ _ (show W1.heap[g1]? = _ from hr)
      have c6 : W1.cell? ⟨g1, 15, none⟩ = some (ci 5) := cell_of_row _ _ 15 _ _ _ (show W1.heap[g1]? = _ from hr)
      have c7 : W1.cell? ⟨g1, 16, none⟩ = some (ci 0) := cell_of_row _ _ 16 _ _ _ (show W1.heap[g1]? = _ from hr)
      have c8 : W1.cell? ⟨g1, 17, none⟩ = some (.bool false) := cell_of_row _ _ 17 _ _ _ (show W1.heap[g1]? = _ from hr)
      go_wp2_with fail
      exact post_cs rfl rfl w.heap.size _ rfl (run_loadVar_row _ _ _ _ _ _ _ (nine_put (show W1.heap[w.heap.size]? = _ from hz1) _ _ _ _ _ _ _ _ _) Tryz.underlying136 rfl info_row) ⟨by rfl, (show Fr _ w W1 from hf1).over (nine_at _ _ _ _ _ _ _ _ _ _ _) (fun k e => by omega)⟩
    · have hkk := rw_2
      clear hkk
      have c0 : W1.cell? ⟨g1, 18, none⟩ = some (ct [103, 101, 116]) := cell_of_row _ _ 18 _ _ _ (show W1.heap[g1]? = _ from hr)
      have c1 : W1.cell? ⟨g1, 19, none⟩ = some (ci 1) := cell_of_row _ _ 19 _ _ _ (show W1.heap[g1]? = _ from hr)
      have c2 : W1.cell? ⟨g1, 20, none⟩ = some (ci 0) := cell_of_row _ _ 20 _ _ _ (show W1.heap[g1]? = _ from hr)
      have c3 : W1.cell? ⟨g1, 21, none⟩ = some (ci 255) := cell_of_row _ _ 21 _ _ _ (show W1.heap[g1]? = _ from hr)
      have c4 : W1.cell? ⟨g1, 22, none⟩ = some (ci 1) := cell_of_row _ _ 22 _ _ _ (show W1.heap[g1]? = _ from hr)
      have c5 : W1.cell? ⟨g1, 23, none⟩ = some (ci 0) := cell_of_row _ _ 23 _ _ _ (show W1.heap[g1]? = _ from hr)
      have c6 : W1.cell? ⟨g1, 24, none⟩ = some (ci 6) := cell_of_row _ _ 24 _ _ _ (show W1.heap[g1]? = _ from hr)
      have c7 : W1.cell? ⟨g1, 25, none⟩ = some (ci 0) := cell_of_row _ _ 25 _ _ _ (show W1.heap[g1]? = _ from hr)
      have c8 : W1.cell? ⟨g1, 26, none⟩ = some (.bool false) := cell_of_row _ _ 26 _ _ _ (show W1.heap[g1]? = _ from hr)
      go_wp2_with fail
      exact post_cs rfl rfl w.heap.size _ rfl (run_loadVar_row _ _ _ _ _ _ _ (nine_put (show W1.heap[w.heap.size]? = _ from hz1) _ _ _ _ _ _ _ _ _) Tryz.underlying136 rfl info_row) ⟨by rfl, (show Fr _ w W1 from hf1).over (nine_at _ _ _ _ _ _ _ _ _ _ _) (fun k e => by omega)⟩
    · have hkk := rw_3
      clear hkk
      have c0 : W1.cell? ⟨g1, 27, none⟩ = some (ct [112, 117, 116]) := cell_of_row _ _ 27 _ _ _ (show W1.heap[g1]? = _ from hr)
      have c1 : W1.cell? ⟨g1, 28, none⟩ = some (ci 1) := cell_of_row _ _ 28 _ _ _ (show W1.heap[g1]? = _ from hr)
      have c2 : W1.cell? ⟨g1, 29, none⟩ = some (ci 0) := cell_of_row _ _ 29 _ _ _ (show W1.heap[g1]? = _ from hr)
      have c3 : W1.cell? ⟨g1, 30, none⟩ = some (ci 255) := cell_of_row _ _ 30 _ _ _ (show W1.heap[g1]? = _ from hr)
      have c4 : W1.cell? ⟨g1, 31, none⟩ = some (ci 1) := cell_of_row _ _ 31 _ _ _ (show W1.heap[g1]? = _ from hr)
      have c5 : W1.cell? ⟨g1, 32, none⟩ = some (ci 6) := cell_of_row _ _ 32 _ _ _ (show W1.heap[g1]? = _ from hr)
      have c6 : W1.cell? ⟨g1, 33, none⟩ = some (ci 0) := cell_of_row _ _ 33 _ _ _ (show W1.heap[g1]? = _ from hr)
      have c7 : W1.cell? ⟨g1, 34, none⟩ = some (ci 0) := cell_of_row _ _ 34 _ _ _ (show W1.heap[g1]? = _ from hr)
      have c8 : W1.cell? ⟨g1, 35, none⟩ = some (.bool false) := cell_of_row _ _ 35 _ _ _ (show W1.heap[g1]? = _ from hr)
      go_wp2_with fail
      exact post_cs rfl rfl w.heap.size _ rfl (run_loadVar_row _ _ _ _ _ _ _ (nine_put (show W1.heap[w.heap.size]? = _ from hz1) _ _ _ _ _ _ _ _ _) Tryz.underlying136 rfl info_row) ⟨by rfl, (show Fr _ w W1 from hf1).over (nine_at _ _ _ _ _ _ _ _ _ _ _) (fun k e => by omega)⟩
    · have hkk := rw_4
      clear hkk
      have c0 : W1.cell? ⟨g1, 36, none⟩ = some (ct [108, 111, 97, 100]) := cell_of_row _ _ 36 _ _ _ (show W1.heap[g1]? = _ from hr)
      have c1 : W1.cell? ⟨g1, 37, none⟩ = some (ci 2) := cell_of_row _ _ 37 _ _ _ (show W1.heap[g1]? = _ from hr)
      have c2 : W1.cell? ⟨g1, 38, none⟩ = some (ci 0) := cell_of_row _ _ 38 _ _ _ (show W1.heap[g1]? = _ from hr)
      have c3 : W1.cell? ⟨g1, 39, none⟩ = some (ci 65535) := cell_of_row _ _ 39 _ _ _ (show W1.heap[g1]? = _ from hr)
      have c4 : W1.cell? ⟨g1, 40, none⟩ = some (ci 2) := cell_of_row _ _ 40 _ _ _ (show W1.heap[g1]? = _ from hr)
      have c5 : W1.cell? ⟨g1, 41, none⟩ = some (ci 0) := cell_of_row _ _ 41 _ _ _ (show W1.heap[g1]? = _ from hr)
      have c6 : W1.cell? ⟨g1, 42, none⟩ = some (ci 6) := cell_of_row _ _ 42 _ _ _ (show W1.heap[g1]? = _ from hr)
      have c7 : W1.cell? ⟨g1, 43, none⟩ = some (ci 0) := cell_of_row _ _ 43 _ _ _ (show W1.heap[g1]? = _ from hr)
      have c8 : W1.cell? ⟨g1, 44, none⟩ = some (.bool false) := cell_of_row _ _ 44 _ _ _ (show W1.heap[g1]? = _ from hr)
      go_wp2_with fail
      exact post_cs rfl rfl w.heap.size _ rfl (run_loadVar_row _ _ _ _ _ _ _ (nine_put (show W1.heap[w.heap.size]? = _ from hz1) _ _ _ _ _ _ _ _ _) Tryz.underlying136 rfl info_row) ⟨by rfl, (show Fr _ w W1 from hf1).over (nine_at _ _ _ _ _ _ _ _ _ _ _) (fun k e => by omega)⟩
    · have hkk := rw_5
      clear hkk
      have c0 : W1.cell? ⟨g1, 45, none⟩ = some (ct [115, 116, 111, 114, 101]) := cell_of_row _ _ 45 _ _ _ (show W1.heap[g1]? = _ from hr)
      have c1 : W1.cell? ⟨g1, 46, none⟩ = some (ci 2) := cell_of_row _ _ 46 _ _ _ (show W1.heap[g1]? = _ from hr)
      have c2 : W1.cell? ⟨g1, 47, none⟩ = some (ci 0) := cell_of_row _ _ 47 _ _ _ (show W1.heap[g1]? = _ from hr)
      have c3 : W1.cell? ⟨g1, 48, none⟩ = some (ci 65535) := cell_of_row _ _ 48 _ _ _ (show W1.heap[g1]? = _ from hr)
      have c4 : W1.cell? ⟨g1, 49, none⟩ = some (ci 2) := cell_of_row _ _ 49 _ _ _ (show W1.heap[g1]? = _ from hr)
      have c5 : W1.cell? ⟨g1, 50, none⟩ = some (ci 6) := cell_of_row _ _ 50 _ _ _ (show W1.heap[g1]? = _ from hr)
      have c6 : W1.cell? ⟨g1, 51, none⟩ = some (ci 0) := cell_of_row _ _ 51 _ _ _ (show W1.heap[g1]? = _ from hr)
      have c7 : W1.cell? ⟨g1, 52, none⟩ = some (ci 0) := cell_of_row _ _ 52 _ _ _ (show W1.heap[g1]? = _ from hr)
      have c8 : W1.cell? ⟨g1, 53, none⟩ = some (.bool false) := cell_of_row _ _ 53 _ _ _ (show W1.heap[g1]? = _ from hr)
      go_wp2_with fail
      exact post_cs rfl rfl w.heap.size _ rfl (run_loadVar_row _ _ _ _ _ _ _ (nine_put (show W1.heap[w.heap.size]? = _ from hz1) _ _ _ _ _ _ _ _ _) Tryz.underlying136 rfl info_row) ⟨by rfl, (show Fr _ w W1 from hf1).over (nine_at _ _ _ _ _ _ _ _ _ _ _) (fun k e => by omega)⟩
    · have hkk := rw_6
      clear hkk
      have c0 : W1.cell? ⟨g1, 54, none⟩ = some (ct [117, 110]) := cell_of_row _ _ 54 _ _ _ (show W1.heap[g1]? = _ from hr)
      have c1 : W1.cell? ⟨g1, 55, none⟩ = some (ci 1) := cell_of_row _ _ 55 _ _ _ (show W1.heap[g1]? = _ from hr)
      have c2 : W1.cell? ⟨g1, 56, none⟩ = some (ci 1) := cell_of_row _ _ 56 _ _ _ (show W1.heap[g1]? = _ from hr)
      have c3 : W1.cell? ⟨g1, 57, none⟩ = some (ci 4) := cell_of_row _ _ 57 _ _ _ (show W1.heap[g1]? = _ from hr)
      have c4 : W1.cell? ⟨g1, 58, none⟩ = some (ci 0) := cell_of_row _ _ 58 _ _ _ (show W1.heap[g1]? = _ from hr)
      have c5 : W1.cell? ⟨g1, 59, none⟩ = some (ci 1) := cell_of_row _ _ 59 _ _ _ (show W1.heap[g1]? = _ from hr)
      have c6 : W1.cell? ⟨g1, 60, none⟩ = some (ci 10) := cell_of_row _ _ 60 _ _ _ (show W1.heap[g1]? = _ from hr)
      have c7 : W1.cell? ⟨g1, 61, none⟩ = some (ci 0) := cell_of_row _ _ 61 _ _ _ (show W1.heap[g1]? = _ from hr)
      have c8 : W1.cell? ⟨g1, 62, none⟩ = some (.bool false) := cell_of_row _ _ 62 _ _ _ (show W1.heap[g1]? = _ from hr)
      go_wp2_with fail
      exact post_cs rfl rfl w.heap.size _ rfl (run_loadVar_row _ _ _ _ _ _ _ (nine_put (show W1.heap[w.heap.size]? = _ from hz1) _ _ _ _ _ _ _ _ _) Tryz.underlying136 rfl info_row) ⟨by rfl, (show Fr _ w W1 from hf1).over (nine_at _ _ _ _ _ _ _ _ _ _ _) (fun k e => by omega)⟩
    · have hkk := rw_7
      clear hkk
      have c0 : W1.cell? ⟨g1, 63, none⟩ = some (ct [98, 105, 110]) := cell_of_row _ _ 63 _ _ _ (show W1.heap[g1]? = _ from hr)
      have c1 : W1.cell? ⟨g1, 64, none⟩ = some (ci 1) := cell_of_row _ _ 64 _ _ _ (show W1.heap[g1]? = _ from hr)
      have c2 : W1.cell? ⟨g1, 65, none⟩ = some (ci 1) := cell_of_row _ _ 65 _ _ _ (show W1.heap[g1]? = _ from hr)
      have c3 : W1.cell? ⟨g1, 66, none⟩ = some (ci 11) := cell_of_row _ _ 66 _ _ _ (show W1.heap[g1]? = _ from hr)
      have c4 : W1.cell? ⟨g1, 67, none⟩ = some (ci 0) := cell_of_row _ _ 67 _ _ _ (show W1.heap[g1]? = _ from hr)
      have c5 : W1.cell? ⟨g1, 68, none⟩ = some (ci 2) := cell_of_row _ _ 68 _ _ _ (show W1.heap[g1]? = _ from hr)
      have c6 : W1.cell? ⟨g1, 69, none⟩ = some (ci 10) := cell_of_row _ _ 69 _ _ _ (show W1.heap[g1]? = _ from hr)
      have c7 : W1.cell? ⟨g1, 70, none⟩ = some (ci 0) := cell_of_row _ _ 70 _ _ _ (show W1.heap[g1]? = _ from hr)
      have c8 : W1.cell? ⟨g1, 71, none⟩ = some (.bool false) := cell_of_row _ _ 71 _ _ _ (show W1.heap[g1]? = _ from hr)
      go_wp2_with fail
      exact post_cs rfl rfl w.heap.size _ rfl (run_loadVar_row _ _ _ _ _ _ _ (nine_put (show W1.heap[w.heap.size]? = _ from hz1) _ _ _ _ _ _ _ _ _) Tryz.underlying136 rfl info_row) ⟨by rfl, (show Fr _ w W1 from hf1).over (nine_at _ _ _ _ _ _ _ _ _ _ _) (fun k e => by omega)⟩
    · have hkk := rw_8
      clear hkk
      have c0 : W1.cell? ⟨g1, 72, none⟩ = some (ct [106, 117, 109, 112]) := cell_of_row _ _ 72 _ _ _ (show W1.heap[g1]? = _ from hr)
      have c1 : W1.cell? ⟨g1, 73, none⟩ = some (ci 2) := cell_of_row _ _ 73 _ _ _ (show W1.heap[g1]? = _ from hr)
      have c2 : W1.cell? ⟨g1, 74, none⟩ = some (ci 0) := cell_of_row _ _ 74 _ _ _ (show W1.heap[g1]? = _ from hr)
      have c3 : W1.cell? ⟨g1, 75, none⟩ = some (ci 65535) := cell_of_row _ _ 75 _ _ _ (show W1.heap[g1]? = _ from hr)
      have c4 : W1.cell? ⟨g1, 76, none⟩ = some (ci 4) := cell_of_row _ _ 76 _ _ _ (show W1.heap[g1]? = _ from hr)
      have c5 : W1.cell? ⟨g1, 77, none⟩ = some (ci 0) := cell_of_row _ _ 77 _ _ _ (show W1.heap[g1]? = _ from hr)
      have c6 : W1.cell? ⟨g1, 78, none⟩ = some (ci 0) := cell_of_row _ _ 78 _ _ _ (show W1.heap[g1]? = _ from hr)
      have c7 : W1.cell? ⟨g1, 79, none⟩ = some (ci 0) := cell_of_row _ _ 79 _ _ _ (show W1.heap[g1]? = _ from hr)
      have c8 : W1.cell? ⟨g1, 80, none⟩ = some (.bool true) := cell_of_row _ _ 80 _ _ _ (show W1.heap[g1]? = _ from hr)
      go_wp2_with fail
      exact post_cs rfl rfl w.heap.size _ rfl (run_loadVar_row _ _ _ _ _ _ _ (nine_put (show W1.heap[w.heap.size]? = _ from hz1) _ _ _ _ _ _ _ _ _) Tryz.underlying136 rfl info_row) ⟨by rfl, (show Fr _ w W1 from hf1).over (nine_at _ _ _ _ _ _ _ _ _ _ _) (fun k e => by omega)⟩
    · have hkk := rw_9
      clear hkk
      have c0 : W1.cell? ⟨g1, 81, none⟩ = some (ct [117, 110, 108, 101, 115, 115]) := cell_of_row _ _ 81 _ _ _ (show W1.heap[g1]? = _ from hr)
      have c1 : W1.cell? ⟨g1, 82, none⟩ = some (ci 2) := cell_of_row _ _ 82 _ _ _ (show W1.heap[g1]? = _ from hr)
      have c2 : W1.cell? ⟨g1, 83, none⟩ = some (ci 0) := cell_of_row _ _ 83 _ _ _ (show W1.heap[g1]? = _ from hr)
      have c3 : W1.cell? ⟨g1, 84, none⟩ = some (ci 65535) := cell_of_row _ _ 84 _ _ _ (show W1.heap[g1]? = _ from hr)
      have c4 : W1.cell? ⟨g1, 85, none⟩ = some (ci 4) := cell_of_row _ _ 85 _ _ _ (show W1.heap[g1]? = _ from hr)
      have c5 : W1.cell? ⟨g1, 86, none⟩ = some (ci 4) := cell_of_row _ _ 86 _ _ _ (show W1.heap[g1]? = _ from hr)
      have c6 : W1.cell? ⟨g1, 87, none⟩ = some (ci 0) := cell_of_row _ _ 87 _ _ _ (show W1.heap[g1]? = _ from hr)
      have c7 : W1.cell? ⟨g1, 88, none⟩ = some (ci 0) := cell_of_row _ _ 88 _ _ _ (show W1.heap[g1]? = _ from hr)
      have c8 : W1.cell? ⟨g1, 89, none⟩ = some (.bool false) := cell_of_row _ _ 89 _ _ _ (show W1.heap[g1]? = _ from hr)
      go_wp2_with fail
      exact post_cs rfl rfl w.heap.size _ rfl (run_loadVar_row _ _ _ _ _ _ _ (nine_put (show W1.heap[w.heap.size]? = _ from hz1) _ _ _ _ _ _ _ _ _) Tryz.underlying136 rfl info_row) ⟨by rfl, (show Fr _ w W1 from hf1).over (nine_at _ _ _ _ _ _ _ _ _ _ _) (fun k e => by omega)⟩
    · have hkk := rw_10
      clear hkk
      have c0 : W1.cell? ⟨g1, 90, none⟩ = some (ct [99, 97, 108, 108]) := cell_of_row _ _ 90 _ _ _ (show W1.heap[g1]? = _ from hr)
      have c1 : W1.cell? ⟨g1, 91, none⟩ = some (ci 2) := cell_of_row _ _ 91 _ _ _ (show W1.heap[g1]? = _ from hr)
      have c2 : W1.cell? ⟨g1, 92, none⟩ = some (ci 0) := cell_of_row _ _ 92 _ _ _ (show W1.heap[g1]? = _ from hr)
      have c3 : W1.cell? ⟨g1, 93, none⟩ = some (ci 65535) := cell_of_row _ _ 93 _ _ _ (show W1.heap[g1]? = _ from hr)
      have c4 : W1.cell? ⟨g1, 94, none⟩ = some (ci 3) := cell_of_row _ _ 94 _ _ _ (show W1.heap[g1]? = _ from hr)
      have c5 : W1.cell? ⟨g1, 95, none⟩ = some (ci 7) := cell_of_row _ _ 95 _ _ _ (show W1.heap[g1]? = _ from hr)
      have c6 : W1.cell? ⟨g1, 96, none⟩ = some (ci 8) := cell_of_row _ _ 96 _ _ _ (show W1.heap[g1]? = _ from hr)
      have c7 : W1.cell? ⟨g1, 97, none⟩ = some (ci 0) := cell_of_row _ _ 97 _ _ _ (show W1.heap[g1]? = _ from hr)
      have c8 : W1.cell? ⟨g1, 98, none⟩ = some (.bool false) := cell_of_row _ _ 98 _ _ _ (show W1.heap[g1]? = _ from hr)
      go_wp2_with fail
      exact post_cs rfl rfl w.heap.size _ rfl (run_loadVar_row _ _ _ _ _ _ _ (nine_put (show W1.heap[w.heap.size]? = _ from hz1) _ _ _ _ _ _ _ _ _) Tryz.underlying136 rfl info_row) ⟨by rfl, (show Fr _ w W1 from hf1).over (nine_at _ _ _ _ _ _ _ _ _ _ _) (fun k e => by omega)⟩
    · have hkk := rw_11
      clear hkk
      have c0 : W1.cell? ⟨g1, 99, none⟩ = some (ct [114, 101, 116, 117, 114, 110]) := cell_of_row _ _ 99 _ _ _ (show W1.heap[g1]? = _ from hr)
      have c1 : W1.cell? ⟨g1, 100, none⟩ = some (ci 0) := cell_of_row _ _ 100 _ _ _ (show W1.heap[g1]? = _ from hr)
      have c2 : W1.cell? ⟨g1, 101, none⟩ = some (ci 0) := cell_of_row _ _ 101 _ _ _ (show W1.heap[g1]? = _ from hr)
      have c3 : W1.cell? ⟨g1, 102, none⟩ = some (ci 0) := cell_of_row _ _ 102 _ _ _ (show W1.heap[g1]? = _ from hr)
      have c4 : W1.cell? ⟨g1, 103, none⟩ = some (ci 0) := cell_of_row _ _ 103 _ _ _ (show W1.heap[g1]? = _ from hr)
      have c5 : W1.cell? ⟨g1, 104, none⟩ = some (ci 9) := cell_of_row _ _ 104 _ _ _ (show W1.heap[g1]? = _ from hr)
      have c6 : W1.cell? ⟨g1, 105, none⟩ = some (ci 0) := cell_of_row _ _ 105 _ _ _ (show W1.heap[g1]? = _ from hr)
      have c7 : W1.cell? ⟨g1, 106, none⟩ = some (ci 0) := cell_of_row _ _ 106 _ _ _ (show W1.heap[g1]? = _ from hr)
      have c8 : W1.cell? ⟨g1, 107, none⟩ = some (.bool true) := cell_of_row _ _ 107 _ _ _ (show W1.heap[g1]? = _ from hr)
      go_wp2_with fail
      exact post_cs rfl rfl w.heap.size _ rfl (run_loadVar_row _ _ _ _ _ _ _ (nine_put (show W1.heap[w.heap.size]? = _ from hz1) _ _ _ _ _ _ _ _ _) Tryz.underlying136 rfl info_row) ⟨by rfl, (show Fr _ w W1 from hf1).over (nine_at _ _ _ _ _ _ _ _ _ _ _) (fun k e => by omega)⟩
    · have hkk := rw_12
      clear hkk
      have c0 : W1.cell? ⟨g1, 108, none⟩ = some (ct [115, 104, 111, 119]) := cell_of_row _ _ 108 _ _ _ (show W1.heap[g1]? = _ from hr)
      have c1 : W1.cell? ⟨g1, 109, none⟩ = some (ci 0) := cell_of_row _ _ 109 _ _ _ (show W1.heap[g1]? = _ from hr)
      have c2 : W1.cell? ⟨g1, 110, none⟩ = some (ci 0) := cell_of_row _ _ 110 _ _ _ (show W1.heap[g1]? = _ from hr)
      have c3 : W1.cell? ⟨g1, 111, none⟩ = some (ci 0) := cell_of_row _ _ 111 _ _ _ (show W1.heap[g1]? = _ from hr)
      have c4 : W1.cell? ⟨g1, 112, none⟩ = some (ci 0) := cell_of_row _ _ 112 _ _ _ (show W1.heap[g1]? = _ from hr)
      have c5 : W1.cell? ⟨g1, 113, none⟩ = some (ci 1) := cell_of_row _ _ 113 _ _ _ (show W1.heap[g1]? = _ from hr)
      have c6 : W1.cell? ⟨g1, 114, none⟩ = some (ci 0) := cell_of_row _ _ 114 _ _ _ (show W1.heap[g1]? = _ from hr)
      have c7 : W1.cell? ⟨g1, 115, none⟩ = some (ci 0) := cell_of_row _ _ 115 _ _ _ (show W1.heap[g1]? = _ from hr)
      have c8 : W1.cell? ⟨g1, 116, none⟩ = some (.bool false) := cell_of_row _ _ 116 _ _ _ (show W1.heap[g1]? = _ from hr)
      go_wp2_with fail
      exact post_cs rfl rfl w.heap.size _ rfl (run_loadVar_row _ _ _ _ _ _ _ (nine_put (show W1.heap[w.heap.size]? = _ from hz1) _ _ _ _ _ _ _ _ _) Tryz.underlying136 rfl info_row) ⟨by rfl, (show Fr _ w W1 from hf1).over (nine_at _ _ _ _ _ _ _ _ _ _ _) (fun k e => by omega)⟩
    · have hkk := rw_13
      clear hkk
      have c0 : W1.cell? ⟨g1, 117, none⟩ = some (ct [102, 97, 105, 108]) := cell_of_row _ _ 117 _ _ _ (show W1.heap[g1]? = _ from hr)
      have c1 : W1.cell? ⟨g1, 118, none⟩ = some (ci 0) := cell_of_row _ _ 118 _ _ _ (show W1.heap[g1]? = _ from hr)
      have c2 : W1.cell? ⟨g1, 119, none⟩ = some (ci 0) := cell_of_row _ _ 119 _ _ _ (show W1.heap[g1]? = _ from hr)
      have c3 : W1.cell? ⟨g1, 120, none⟩ = some (ci 0) := cell_of_row _ _ 120 _ _ _ (show W1.heap[g1]? = _ from hr)
      have c4 : W1.cell? ⟨g1, 121, none⟩ = some (ci 0) := cell_of_row _ _ 121 _ _ _ (show W1.heap[g1]? = _ from hr)
      have c5 : W1.cell? ⟨g1, 122, none⟩ = some (ci 3) := cell_of_row _ _ 122 _ _ _ (show W1.heap[g1]? = _ from hr)
      have c6 : W1.cell? ⟨g1, 123, none⟩ = some (ci 0) := cell_of_row _ _ 123 _ _ _ (show W1.heap[g1]? = _ from hr)
      have c7 : W1.cell? ⟨g1, 124, none⟩ = some (ci 0) := cell_of_row _ _ 124 _ _ _ (show W1.heap[g1]? = _ from hr)
      have c8 : W1.cell? ⟨g1, 125, none⟩ = some (.bool true) := cell_of_row _ _ 125 _ _ _ (show W1.heap[g1]? = _ from hr)
      go_wp2_with fail
      exact post_cs rfl rfl w.heap.size _ rfl (run_loadVar_row _ _ _ _ _ _ _ (nine_put (show W1.heap[w.heap.size]? = _ from hz1) _ _ _ _ _ _ _ _ _) Tryz.underlying136 rfl info_row) ⟨by rfl, (show Fr _ w W1 from hf1).over (nine_at _ _ _ _ _ _ _ _ _ _ _) (fun k e => by omega)⟩
    · have hkk := rw_14
      clear hkk
      have c0 : W1.cell? ⟨g1, 126, none⟩ = some (ct [105, 110, 112, 117, 116]) := cell_of_row _ _ 126 _ _ _ (show W1.heap[g1]? = _ from hr)
      have c1 : W1.cell? ⟨g1, 127, none⟩ = some (ci 0) := cell_of_row _ _ 127 _ _ _ (show W1.heap[g1]? = _ from hr)
      have c2 : W1.cell? ⟨g1, 128, none⟩ = some (ci 0) := cell_of_row _ _ 128 _ _ _ (show W1.heap[g1]? = _ from hr)
      have c3 : W1.cell? ⟨g1, 129, none⟩ = some (ci 0) := cell_of_row _ _ 129 _ _ _ (show W1.heap[g1]? = _ from hr)
      have c4 : W1.cell? ⟨g1, 130, none⟩ = some (ci 0) := cell_of_row _ _ 130 _ _ _ (show W1.heap[g1]? = _ from hr)
      have c5 : W1.cell? ⟨g1, 131, none⟩ = some (ci 0) := cell_of_row _ _ 131 _ _ _ (show W1.heap[g1]? = _ from hr)
      have c6 : W1.cell? ⟨g1, 132, none⟩ = some (ci 3) := cell_of_row _ _ 132 _ _ _ (show W1.heap[g1]? = _ from hr)
      have c7 : W1.cell? ⟨g1, 133, none⟩ = some (ci 0) := cell_of_row _ _ 133 _ _ _ (show W1.heap[g1]? = _ from hr)
      have c8 : W1.cell? ⟨g1, 134, none⟩ = some (.bool false) := cell_of_row _ _ 134 _ _ _ (show W1.heap[g1]? = _ from hr)
      go_wp2_with fail
      exact post_cs rfl rfl w.heap.size _ rfl (run_loadVar_row _ _ _ _ _ _ _ (nine_put (show W1.heap[w.heap.size]? = _ from hz1) _ _ _ _ _ _ _ _ _) Tryz.underlying136 rfl info_row) ⟨by rfl, (show Fr _ w W1 from hf1).over (nine_at _ _ _ _ _ _ _ _ _ _ _) (fun k e => by omega)⟩
    · have hkk := rw_15
      clear hkk
      have c0 : W1.cell? ⟨g1, 135, none⟩ = some (ct [116, 114, 121]) := cell_of_row _ _ 135 _ _ _ (show W1.heap[g1]? = _ from hr)
      have c1 : W1.cell? ⟨g1, 136, none⟩ = some (ci 2) := cell_of_row _ _ 136 _ _ _ (show W1.heap[g1]? = _ from hr)
      have c2 : W1.cell? ⟨g1, 137, none⟩ = some (ci 0) := cell_of_row _ _ 137 _ _ _ (show W1.heap[g1]? = _ from hr)
      have c3 : W1.cell? ⟨g1, 138, none⟩ = some (ci 65535) := cell_of_row _ _ 138 _ _ _ (show W1.heap[g1]? = _ from hr)
      have c4 : W1.cell? ⟨g1, 139, none⟩ = some (ci 4) := cell_of_row _ _ 139 _ _ _ (show W1.heap[g1]? = _ from hr)
      have c5 : W1.cell? ⟨g1, 140, none⟩ = some (ci 0) := cell_of_row _ _ 140 _ _ _ (show W1.heap[g1]? = _ from hr)
      have c6 : W1.cell? ⟨g1, 141, none⟩ = some (ci 0) := cell_of_row _ _ 141 _ _ _ (show W1.heap[g1]? = _ from hr)
      have c7 : W1.cell? ⟨g1, 142, none⟩ = some (ci 1) := cell_of_row _ _ 142 _ _ _ (show W1.heap[g1]? = _ from hr)
      have c8 : W1.cell? ⟨g1, 143, none⟩ = some (.bool false) := cell_of_row _ _ 143 _ _ _ (show W1.heap[g1]? = _ from hr)
      go_wp2_with fail
      exact post_cs rfl rfl w.heap.size _ rfl (run_loadVar_row _ _ _ _ _ _ _ (nine_put (show W1.heap[w.heap.size]? = _ from hz1) _ _ _ _ _ _ _ _ _) Tryz.underlying136 rfl info_row) ⟨by rfl, (show Fr _ w W1 from hf1).over (nine_at _ _ _ _ _ _ _ _ _ _ _) (fun k e => by omega)⟩
    · have hkk := rw_16
      clear hkk
      have c0 : W1.cell? ⟨g1, 144, none⟩ = some (ct [117, 110, 116, 114, 121]) := cell_of_row _ _ 144 _ _ _ (show W1.heap[g1]? = _ from hr)
      have c1 : W1.cell? ⟨g1, 145, none⟩ = some (ci 0) := cell_of_row _ _ 145 _ _ _ (show W1.heap[g1]? = _ from hr)
      have c2 : W1.cell? ⟨g1, 146, none⟩ = some (ci 0) := cell_of_row _ _ 146 _ _ _ (show W1.heap[g1]? = _ from hr)
      have c3 : W1.cell? ⟨g1, 147, none⟩ = some (ci 0) := cell_of_row _ _ 147 _ _ _ (show W1.heap[g1]? = _ from hr)
      have c4 : W1.cell? ⟨g1, 148, none⟩ = some (ci 0) := cell_of_row _ _ 148 _ _ _ (show W1.heap[g1]? = _ from hr)
      have c5 : W1.cell? ⟨g1, 149, none⟩ = some (ci 0) := cell_of_row _ _ 149 _ _ _ (show W1.heap[g1]? = _ from hr)
      have c6 : W1.cell? ⟨g1, 150, none⟩ = some (ci 0) := cell_of_row _ _ 150 _ _ _ (show W1.heap[g1]? = _ from hr)
      have c7 : W1.cell? ⟨g1, 151, none⟩ = some (ci (-1)) := cell_of_row _ _ 151 _ _ _ (show W1.heap[g1]? = _ from hr)
      have c8 : W1.cell? ⟨g1, 152, none⟩ = some (.bool false) := cell_of_row _ _ 152 _ _ _ (show W1.heap[g1]? = _ from hr)
      go_wp2_with fail
      exact post_cs rfl rfl w.heap.size _ rfl (run_loadVar_row _ _ _ _ _ _ _ (nine_put (show W1.heap[w.heap.size]? = _ from hz1) _ _ _ _ _ _ _ _ _) Tryz.underlying136 rfl info_row) ⟨by rfl, (show Fr _ w W1 from hf1).over (nine_at _ _ _ _ _ _ _ _ _ _ _) (fun k e => by omega)⟩
    · have hkk := rw_17
      clear hkk
      have c0 : W1.cell? ⟨g1, 153, none⟩ = some (ct [100, 114, 111, 112]) := cell_of_row _ _ 153 _ _ _ (show W1.heap[g1]? = _ from hr)
      have c1 : W1.cell? ⟨g1, 154, none⟩ = some (ci 0) := cell_of_row _ _ 154 _ _ _ (show W1.heap[g1]? = _ from hr)
      have c2 : W1.cell? ⟨g1, 155, none⟩ = some (ci 0) := cell_of_row _ _ 155 _ _ _ (show W1.heap[g1]? = _ from hr)
      have c3 : W1.cell? ⟨g1, 156, none⟩ = some (ci 0) := cell_of_row _ _ 156 _ _ _ (show W1.heap[g1]? = _ from hr)
      have c4 : W1.cell? ⟨g1, 157, none⟩ = some (ci 0) := cell_of_row _ _ 157 _ _ _ (show W1.heap[g1]? = _ from hr)
      have c5 : W1.cell? ⟨g1, 158, none⟩ = some (ci 1) := cell_of_row _ _ 158 _ _ _ (show W1.heap[g1]? = _ from hr)
      have c6 : W1.cell? ⟨g1, 159, none⟩ = some (ci 0) := cell_of_row _ _ 159 _ _ _ (show W1.heap[g1]? = _ from hr)
      have c7 : W1.cell? ⟨g1, 160, none⟩ = some (ci 0) := cell_of_row _ _ 160 _ _ _ (show W1.heap[g1]? = _ from hr)
      have c8 : W1.cell? ⟨g1, 161, none⟩ = some (.bool false) := cell_of_row _ _ 161 _ _ _ (show W1.heap[g1]? = _ from hr)
      go_wp2_with fail
      exact post_cs rfl rfl w.heap.size _ rfl (run_loadVar_row _ _ _ _ _ _ _ (nine_put (show W1.heap[w.heap.size]? = _ from hz1) _ _ _ _ _ _ _ _ _) Tryz.underlying136 rfl info_row) ⟨by rfl, (show Fr _ w W1 from hf1).over (nine_at _ _ _ _ _ _ _ _ _ _ _) (fun k e => by omega)⟩
  · have er : rwA op = #[ct [], ci 0, ci 0, ci 0, ci 0, ci 0, ci 0, ci 0, .bool false] := by
      have hne : ∀ k : Int, 1 ≤ k → k ≤ 17 → op ≠ k := fun k h1 h2 => by omega
      have e1 := hne 1 (by decide) (by decide); have e2 := hne 2 (by decide) (by decide); have e3 := hne 3 (by decide) (by decide); have e4 := hne 4 (by decide) (by decide); have e5 := hne 5 (by decide) (by decide); have e6 := hne 6 (by decide) (by decide)
      have e7 := hne 7 (by decide) (by decide); have e8 := hne 8 (by decide) (by decide); have e9 := hne 9 (by decide) (by decide); have e10 := hne 10 (by decide) (by decide); have e11 := hne 11 (by decide) (by decide); have e12 := hne 12 (by decide) (by decide)
      have e13 := hne 13 (by decide) (by decide); have e14 := hne 14 (by decide) (by decide); have e15 := hne 15 (by decide) (by decide); have e16 := hne 16 (by decide) (by decide); have e17 := hne 17 (by decide) (by decide)
      simp [rwA, nmR, byR, lo, hi, wd, nuR, taR, puR, trR, enR, hk, e1, e2, e3, e4, e5, e6, e7, e8, e9, e10, e11, e12, e13, e14, e15, e16, e17]
    have er : Hidden (rwA op = _) := er
    have hk : Hidden (known op = false) := hk
    rcases key with key | key
    · have k1 : decide (op < 1) = true := by simpa using key
      go_wp2_with fail
      exact post_cs rfl rfl w.heap.size _ rfl (run_loadVar_row _ _ _ _ _ _ _ (nine_put (show W1.heap[w.heap.size]? = _ from hz1) _ _ _ _ _ _ _ _ _) Tryz.underlying136 rfl info_row) ⟨by rw [show rwA op = _ from er, show known op = false from hk]; rfl, (show Fr _ w W1 from hf1).over (nine_at _ _ _ _ _ _ _ _ _ _ _) (fun k e => by omega)⟩
    · have k1 : decide (op < 1) = false := by simp; omega
      have k2 : decide (18 ≤ op) = true := by simpa using key
      go_wp2_with fail
      exact post_cs rfl rfl w.heap.size _ rfl (run_loadVar_row _ _ _ _ _ _ _ (nine_put (show W1.heap[w.heap.size]? = _ from hz1) _ _ _ _ _ _ _ _ _) Tryz.underlying136 rfl info_row) ⟨by rw [show rwA op = _ from er, show known op = false from hk]; rfl, (show Fr _ w W1 from hf1).over (nine_at _ _ _ _ _ _ _ _ _ _ _) (fun k e => by omega)⟩
end Go.Proofs.YtoiglopilpoafaaGreatDoor.Cd
