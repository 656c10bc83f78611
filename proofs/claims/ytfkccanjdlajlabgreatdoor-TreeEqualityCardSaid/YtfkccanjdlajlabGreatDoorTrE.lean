/- The law TreeEquality. -/
import Derived.Test.YtfkccanjdlajlabGreatDoorTrV3
import Derived.Test.YtfkccanjdlajlabGreatDoorTrQ4
import Derived.Test.YtfkccanjdlajlabGreatDoorTrIn
import Derived.Test.YtfkccanjdlajlabGreatDoorTrG
namespace Go.Proofs.YtfkccanjdlajlabGreatDoor
open Go.RowKit Te
set_option linter.unusedSimpArgs false
set_option linter.unusedVariables false

set_option maxRecDepth 20000 in
set_option maxHeartbeats 4000000 in
theorem treeEquality.walk (va : Value) (a : Mo) (vb : Value) (b : Mo) (vc : Value) (c : Mo) (w : World) (ha : MoI w a va) (oa : OkM a) (hb : MoI w b vb) (ob : OkM b) (hc : MoI w c vc) (oc : OkM c) (ht : F.Tab w) :
    Calls Tryz.prog 4 #[va, vb, vc] w fun e w' => e = .returned (.bool true) ∧ Fr (fun _ => False) w w' := by
  have kab := fun (w1 : World) (f : Fr (fun _ => False) w w1) => same_any a b va vb w1 (ha.keep f) (hb.keep f)
  have kba := fun (w1 : World) (f : Fr (fun _ => False) w w1) => same_any b a vb va w1 (hb.keep f) (ha.keep f)
  have kbc := fun (w1 : World) (f : Fr (fun _ => False) w w1) => same_any b c vb vc w1 (hb.keep f) (hc.keep f)
  have kac := fun (w1 : World) (f : Fr (fun _ => False) w w1) => same_any a c va vc w1 (ha.keep f) (hc.keep f)
  obtain ⟨ao1, cap1, aod1, capd1, rfl, _, _⟩ := ha
  obtain ⟨ao2, cap2, aod2, capd2, rfl, _, _⟩ := hb
  obtain ⟨ao3, cap3, aod3, capd3, rfl, _, _⟩ := hc
  have f0 : Fr (fun _ => False) w (((w.alloc (.cells #[ct a.name, .slice ao1 a.imports.length cap1, .slice aod1 a.decls.length capd1] 25)).alloc (.cells #[ct b.name, .slice ao2 b.imports.length cap2, .slice aod2 b.decls.length capd2] 25)).alloc (.cells #[ct c.name, .slice ao3 c.imports.length cap3, .slice aod3 c.decls.length capd3] 25)) := ((Fr.alloc _ _ _).same (Fr.alloc _ _ _)).same (Fr.alloc _ _ _)
  have bx : Hidden (∀ w1, Fr (fun _ => False) (((w.alloc (.cells #[ct a.name, .slice ao1 a.imports.length cap1, .slice aod1 a.decls.length capd1] 25)).alloc (.cells #[ct b.name, .slice ao2 b.imports.length cap2, .slice aod2 b.decls.length capd2] 25)).alloc (.cells #[ct c.name, .slice ao3 c.imports.length cap3, .slice aod3 c.decls.length capd3] 25)) w1 → (w1.cell? ⟨w.heap.size, 0, none⟩ = some (ct a.name) ∧ w1.cell? ⟨w.heap.size, 1, none⟩ = some (.slice ao1 a.imports.length cap1) ∧ w1.cell? ⟨w.heap.size, 2, none⟩ = some (.slice aod1 a.decls.length capd1) ∧ w1.cell? ⟨w.heap.size + 1, 0, none⟩ = some (ct b.name) ∧ w1.cell? ⟨w.heap.size + 1, 1, none⟩ = some (.slice ao2 b.imports.length cap2) ∧ w1.cell? ⟨w.heap.size + 1, 2, none⟩ = some (.slice aod2 b.decls.length capd2) ∧ w1.cell? ⟨w.heap.size + 1 + 1, 0, none⟩ = some (ct c.name) ∧ w1.cell? ⟨w.heap.size + 1 + 1, 1, none⟩ = some (.slice ao3 c.imports.length cap3) ∧ w1.cell? ⟨w.heap.size + 1 + 1, 2, none⟩ = some (.slice aod3 c.decls.length capd3))) := by
    intro w1 f
    have x1 : (((w.alloc (.cells #[ct a.name, .slice ao1 a.imports.length cap1, .slice aod1 a.decls.length capd1] 25)).alloc (.cells #[ct b.name, .slice ao2 b.imports.length cap2, .slice aod2 b.decls.length capd2] 25)).alloc (.cells #[ct c.name, .slice ao3 c.imports.length cap3, .slice aod3 c.decls.length capd3] 25)).heap[w.heap.size]? = some (.cells #[ct a.name, .slice ao1 a.imports.length cap1, .slice aod1 a.decls.length capd1] 25 (0, 0)) := (Fr.alloc (fun _ => False) _ _).heap ((Fr.alloc (fun _ => False) _ _).heap (alloc_new _ _) (fun f => f)) (fun f => f)
    have x2 : (((w.alloc (.cells #[ct a.name, .slice ao1 a.imports.length cap1, .slice aod1 a.decls.length capd1] 25)).alloc (.cells #[ct b.name, .slice ao2 b.imports.length cap2, .slice aod2 b.decls.length capd2] 25)).alloc (.cells #[ct c.name, .slice ao3 c.imports.length cap3, .slice aod3 c.decls.length capd3] 25)).heap[w.heap.size + 1]? = some (.cells #[ct b.name, .slice ao2 b.imports.length cap2, .slice aod2 b.decls.length capd2] 25 (0, 0)) := (Fr.alloc (fun _ => False) _ _).heap ((congrArg _ (by simp)).trans (alloc_new _ _)) (fun f => f)
    have x3 : (((w.alloc (.cells #[ct a.name, .slice ao1 a.imports.length cap1, .slice aod1 a.decls.length capd1] 25)).alloc (.cells #[ct b.name, .slice ao2 b.imports.length cap2, .slice aod2 b.decls.length capd2] 25)).alloc (.cells #[ct c.name, .slice ao3 c.imports.length cap3, .slice aod3 c.decls.length capd3] 25)).heap[w.heap.size + 1 + 1]? = some (.cells #[ct c.name, .slice ao3 c.imports.length cap3, .slice aod3 c.decls.length capd3] 25 (0, 0)) := (congrArg _ (by simp)).trans (alloc_new _ _)
    have y1 := f.heap x1 (fun f => f)
    have y2 := f.heap x2 (fun f => f)
    have y3 := f.heap x3 (fun f => f)
    exact ⟨cell_of_row _ _ 0 _ _ _ y1, cell_of_row _ _ 1 _ _ _ y1, cell_of_row _ _ 2 _ _ _ y1, cell_of_row _ _ 0 _ _ _ y2, cell_of_row _ _ 1 _ _ _ y2, cell_of_row _ _ 2 _ _ _ y2, cell_of_row _ _ 0 _ _ _ y3, cell_of_row _ _ 1 _ _ _ y3, cell_of_row _ _ 2 _ _ _ y3⟩
  have hcase : (decide (a = b) = false ∧ decide (b = a) = false) ∨ (decide (a = b) = true ∧ decide (b = a) = true ∧ decide (b = c) = false) ∨ (decide (a = b) = true ∧ decide (b = a) = true ∧ decide (b = c) = true ∧ decide (a = c) = true) := by
    by_cases h1 : a = b
    · subst h1
      by_cases h2 : a = c
      · exact Or.inr (Or.inr ⟨by simp, by simp, by simp [h2], by simp [h2]⟩)
      · exact Or.inr (Or.inl ⟨by simp, by simp, by simp [h2]⟩)
    · exact Or.inl ⟨decide_eq_false h1, decide_eq_false (fun h : b = a => h1 h.symm)⟩
  go_enter Tryz.func4, Tryz.ntmps4
  go_wp2_with fail
  obtain ⟨i1, i2, i3, i4, i5, i6, i7, i8, i9⟩ := bx _ (Fr.refl _ _)
  refine wp_region_grow (by kernel_rfl) (by kernel_rfl) ?_
  rcases hcase with ⟨r1, r2⟩ | ⟨r1, r2, r3⟩ | ⟨r1, r2, r3, r4⟩
  · simp only [r1] at kab
    simp only [r2] at kba
    clear r1 r2 kbc kac
    (repeat (first | (refine grow_op (v := ?_) (by go_simp) ?_ ?_; rotate_left; (focus (intro w' hw'; have i1 := hw'.cellN i1; have i2 := hw'.cellN i2; have i3 := hw'.cellN i3; have i4 := hw'.cellN i4; have i5 := hw'.cellN i5; have i6 := hw'.cellN i6; have i7 := hw'.cellN i7; have i8 := hw'.cellN i8; have i9 := hw'.cellN i9; (go_simp; first | with_reducible rfl | (go_at_call 8; refine calls_grow hw' ?_; first | (have q := live_any _ (tab_fr ht (f0.same hw')); with_reducible exact q)) | (go_at_call 10; refine calls_grow hw' ?_; first | (have q := kab _ (f0.same hw'); with_reducible exact q) | (have q := kba _ (f0.same hw'); with_reducible exact q))))); (try simp only [Act.put, List.setIfInBounds_toArray, List.set_cons_zero, List.set_cons_succ])) | (refine grow_no (by go_simp) ?_; (try simp only [Act.put, List.setIfInBounds_toArray, List.set_cons_zero, List.set_cons_succ])))); refine wpQuiet_nil ?_; intro w3 k3
    have g3 := f0.same k3
    obtain ⟨d1, d2, d3, d4, d5, d6, d7, d8, d9⟩ := bx _ k3
    go_wp2_with fail
    go_at_call 10
    refine (kab _ g3).mono ?_
    rintro e w4 ⟨rfl, f4⟩
    have k4 := k3.same f4
    have g4 := g3.same f4
    obtain ⟨e1, e2, e3, e4, e5, e6, e7, e8, e9⟩ := bx _ k4
    go_wp2_with fail
    go_ret
    exact ⟨rfl, g4⟩
  · simp only [r1] at kab
    simp only [r2] at kba
    simp only [r3] at kbc
    clear r1 r2 r3 kac
    (repeat (first | (refine grow_op (v := ?_) (by go_simp) ?_ ?_; rotate_left; (focus (intro w' hw'; have i1 := hw'.cellN i1; have i2 := hw'.cellN i2; have i3 := hw'.cellN i3; have i4 := hw'.cellN i4; have i5 := hw'.cellN i5; have i6 := hw'.cellN i6; have i7 := hw'.cellN i7; have i8 := hw'.cellN i8; have i9 := hw'.cellN i9; (go_simp; first | with_reducible rfl | (go_at_call 8; refine calls_grow hw' ?_; first | (have q := live_any _ (tab_fr ht (f0.same hw')); with_reducible exact q)) | (go_at_call 10; refine calls_grow hw' ?_; first | (have q := kab _ (f0.same hw'); with_reducible exact q) | (have q := kba _ (f0.same hw'); with_reducible exact q))))); (try simp only [Act.put, List.setIfInBounds_toArray, List.set_cons_zero, List.set_cons_succ])) | (refine grow_no (by go_simp) ?_; (try simp only [Act.put, List.setIfInBounds_toArray, List.set_cons_zero, List.set_cons_succ])))); refine wpQuiet_nil ?_; intro w3 k3
    have g3 := f0.same k3
    obtain ⟨d1, d2, d3, d4, d5, d6, d7, d8, d9⟩ := bx _ k3
    go_wp2_with fail
    go_at_call 10
    refine (kab _ g3).mono ?_
    rintro e w4 ⟨rfl, f4⟩
    have k4 := k3.same f4
    have g4 := g3.same f4
    obtain ⟨e1, e2, e3, e4, e5, e6, e7, e8, e9⟩ := bx _ k4
    go_wp2_with fail
    go_at_call 10
    refine (kbc _ g4).mono ?_
    rintro e w5 ⟨rfl, f5⟩
    have g5 := g4.same f5
    go_wp2_with fail
    go_ret
    exact ⟨rfl, g5⟩
  · simp only [r1] at kab
    simp only [r2] at kba
    simp only [r3] at kbc
    simp only [r4] at kac
    clear r1 r2 r3 r4
    (repeat (first | (refine grow_op (v := ?_) (by go_simp) ?_ ?_; rotate_left; (focus (intro w' hw'; have i1 := hw'.cellN i1; have i2 := hw'.cellN i2; have i3 := hw'.cellN i3; have i4 := hw'.cellN i4; have i5 := hw'.cellN i5; have i6 := hw'.cellN i6; have i7 := hw'.cellN i7; have i8 := hw'.cellN i8; have i9 := hw'.cellN i9; (go_simp; first | with_reducible rfl | (go_at_call 8; refine calls_grow hw' ?_; first | (have q := live_any _ (tab_fr ht (f0.same hw')); with_reducible exact q)) | (go_at_call 10; refine calls_grow hw' ?_; first | (have q := kab _ (f0.same hw'); with_reducible exact q) | (have q := kba _ (f0.same hw'); with_reducible exact q))))); (try simp only [Act.put, List.setIfInBounds_toArray, List.set_cons_zero, List.set_cons_succ])) | (refine grow_no (by go_simp) ?_; (try simp only [Act.put, List.setIfInBounds_toArray, List.set_cons_zero, List.set_cons_succ])))); refine wpQuiet_nil ?_; intro w3 k3
    have g3 := f0.same k3
    obtain ⟨d1, d2, d3, d4, d5, d6, d7, d8, d9⟩ := bx _ k3
    go_wp2_with fail
    go_at_call 10
    refine (kab _ g3).mono ?_
    rintro e w4 ⟨rfl, f4⟩
    have k4 := k3.same f4
    have g4 := g3.same f4
    obtain ⟨e1, e2, e3, e4, e5, e6, e7, e8, e9⟩ := bx _ k4
    go_wp2_with fail
    go_at_call 10
    refine (kbc _ g4).mono ?_
    rintro e w5 ⟨rfl, f5⟩
    have k5 := k4.same f5
    have g5 := g4.same f5
    obtain ⟨m1, m2, m3, m4, m5, m6, m7, m8, m9⟩ := bx _ k5
    go_wp2_with fail
    go_at_call 10
    refine (kac _ g5).mono ?_
    rintro e w6 ⟨rfl, f6⟩
    go_wp2_with fail
    go_ret
    exact ⟨rfl, g5.same f6⟩
end Go.Proofs.YtfkccanjdlajlabGreatDoor
