/- The law of the measures. -/
import Derived.Test.YtfkccanjdlajlaaGreatDoorTrU6
import Derived.Test.YtfkccanjdlajlaaGreatDoorTrN2
import Derived.Test.YtfkccanjdlajlaaGreatDoorTrTAll
import Derived.Deep.RegionHeld3
namespace Go.Proofs.YtfkccanjdlajlaaGreatDoor
open Go.RowKit Te
set_option linter.unusedSimpArgs false
set_option linter.unusedVariables false

set_option maxRecDepth 20000 in
set_option maxHeartbeats 16000000 in
theorem treeMeasures.core (v : Value) (m : Mo) (w : World) (hv : MoI w m v) (hn : ndM m.decls ≤ 1099511627776) (hu : X.Fit [] (usM m.decls)) (ht : F.Tab w) :
    Calls Tryz.prog 4 #[v] w fun e w' => e = .returned (.bool true) ∧ Fr (fun _ => False) w w' := by
  have hu1 : (usM m.decls).length * 16 ≤ 140737488355328 := by have := hu.1; simp at this; omega
  obtain ⟨ao, cap, aod, capd, rfl, s1, hk⟩ := id hv
  have f0 : Fr (fun _ => False) w (w.alloc (.cells #[ct m.name, .slice ao m.imports.length cap, .slice aod m.decls.length capd] 25)) := Fr.alloc _ _ _
  have kD := fun (w1 : World) (f : Fr (fun _ => False) (w.alloc (.cells #[ct m.name, .slice ao m.imports.length cap, .slice aod m.decls.length capd] 25)) w1) => depthM_any m _ w1 (hv.keep (f0.same f))
  have xD := fun (w1 : World) (f : Fr (fun _ => False) (w.alloc (.cells #[ct m.name, .slice ao m.imports.length cap, .slice aod m.decls.length capd] 25)) w1) => X.depthM_any m _ w1 (hv.keep (f0.same f))
  have kN := fun (w1 : World) (f : Fr (fun _ => False) (w.alloc (.cells #[ct m.name, .slice ao m.imports.length cap, .slice aod m.decls.length capd] 25)) w1) => nodes_any m _ w1 (hv.keep (f0.same f)) hn
  have xN := fun (w1 : World) (f : Fr (fun _ => False) (w.alloc (.cells #[ct m.name, .slice ao m.imports.length cap, .slice aod m.decls.length capd] 25)) w1) => X.nodes_any m _ w1 (hv.keep (f0.same f)) hn
  have kU := fun (w1 : World) (f : Fr (fun _ => False) (w.alloc (.cells #[ct m.name, .slice ao m.imports.length cap, .slice aod m.decls.length capd] 25)) w1) => uses_any m _ w1 (hv.keep (f0.same f)) hu1
  have xU := fun (w1 : World) (f : Fr (fun _ => False) (w.alloc (.cells #[ct m.name, .slice ao m.imports.length cap, .slice aod m.decls.length capd] 25)) w1) => X.uses_any m _ w1 (hv.keep (f0.same f)) hu
  have kl := fun (w1 : World) (f : Fr (fun _ => False) (w.alloc (.cells #[ct m.name, .slice ao m.imports.length cap, .slice aod m.decls.length capd] 25)) w1) => live_any w1 (tab_fr ht (f0.same f))
  have hbx : Hidden ((w.alloc (.cells #[ct m.name, .slice ao m.imports.length cap, .slice aod m.decls.length capd] 25)).heap[w.heap.size]? = some (.cells #[ct m.name, .slice ao m.imports.length cap, .slice aod m.decls.length capd] 25 (0, 0))) := alloc_new _ _
  have c0 : (w.alloc (.cells #[ct m.name, .slice ao m.imports.length cap, .slice aod m.decls.length capd] 25)).cell? ⟨w.heap.size, 0, none⟩ = some (ct m.name) := cell_of_row _ _ 0 _ _ _ hbx
  have c1 : (w.alloc (.cells #[ct m.name, .slice ao m.imports.length cap, .slice aod m.decls.length capd] 25)).cell? ⟨w.heap.size, 1, none⟩ = some (.slice ao m.imports.length cap) := cell_of_row _ _ 1 _ _ _ hbx
  have c2 : (w.alloc (.cells #[ct m.name, .slice ao m.imports.length cap, .slice aod m.decls.length capd] 25)).cell? ⟨w.heap.size, 2, none⟩ = some (.slice aod m.decls.length capd) := cell_of_row _ _ 2 _ _ _ hbx
  have hd0 : Fr (fun _ => False) (w.alloc (.cells #[ct m.name, .slice ao m.imports.length cap, .slice aod m.decls.length capd] 25)) (w.alloc (.cells #[ct m.name, .slice ao m.imports.length cap, .slice aod m.decls.length capd] 25)).drew := Fr.drew _ _
  clear hv hn hu hu1 s1 hk hbx
  generalize dM m.decls = nd at kD xD
  generalize ndM m.decls = nn at kN xN
  generalize U.setS (usM m.decls) = su at kU xU
  go_enter Tryz.func4, Tryz.ntmps4
  go_wp2_with fail
  go_region_held3 (fun w' => Fr (fun _ => False) (w.alloc (.cells #[ct m.name, .slice ao m.imports.length cap, .slice aod m.decls.length capd] 25)) w' ∧ w'.cell? ⟨w.heap.size, 0, none⟩ = some (ct m.name) ∧ w'.cell? ⟨w.heap.size, 1, none⟩ = some (.slice ao m.imports.length cap) ∧ w'.cell? ⟨w.heap.size, 2, none⟩ = some (.slice aod m.decls.length capd)) (first | (refine ⟨by assumption, by assumption, by assumption, by assumption⟩) | (refine ⟨by assumption, ?_⟩; go_keep)) (first
    | (go_at_call 14; (go_split_ands); refine (kD _ (by assumption)).mono ?_; rintro e wa ⟨rfl, fwa⟩; have gwa := Fr.same (by assumption) fwa; have q0 := gwa.cellN c0; have q1 := gwa.cellN c1; have q2 := gwa.cellN c2)
    | (go_at_call 15; (go_split_ands); refine (xD _ (by assumption)).mono ?_; rintro e wb ⟨rfl, fwb⟩; have gwb := Fr.same (by assumption) fwb; have q0 := gwb.cellN c0; have q1 := gwb.cellN c1; have q2 := gwb.cellN c2)
    | (go_at_call 16; (go_split_ands); refine (kN _ (by assumption)).mono ?_; rintro e wc ⟨rfl, fwc⟩; have gwc := Fr.same (by assumption) fwc; have q0 := gwc.cellN c0; have q1 := gwc.cellN c1; have q2 := gwc.cellN c2)
    | (go_at_call 17; (go_split_ands); refine (xN _ (by assumption)).mono ?_; rintro e wd ⟨rfl, fwd⟩; have gwd := Fr.same (by assumption) fwd; have q0 := gwd.cellN c0; have q1 := gwd.cellN c1; have q2 := gwd.cellN c2)
    | (go_at_call 19; (go_split_ands); refine (kU _ (by assumption)).mono ?_; rintro e w3 ⟨v3, rfl, to3, f3⟩; have g3 := Fr.same (by assumption) f3; have q0 := g3.cellN c0; have q1 := g3.cellN c1; have q2 := g3.cellN c2)
    | (go_at_call 20; (go_split_ands); refine (xU _ (by assumption)).mono ?_; rintro e w4 ⟨v4, rfl, to4, f4⟩; have g4 := Fr.same (by assumption) f4; have q0 := g4.cellN c0; have q1 := g4.cellN c1; have q2 := g4.cellN c2)
    | (go_at_call 18; (first | (refine (U.texts_is _ _ _ _ _ (to3.later (fr_u f4)) to4 true (by simp)).mono ?_) | (refine (U.texts_is _ _ _ _ _ to3 (to4.later (fr_u f3)) true (by simp)).mono ?_)); rintro e w5 ⟨rfl, f5'⟩; have f5 := u_fr f5'; (go_split_ands); have g5 := Fr.same (by assumption) f5; have q0 := g5.cellN c0; have q1 := g5.cellN c1; have q2 := g5.cellN c2)
    | (go_at_call 13; (go_split_ands); refine (kl _ (by assumption)).mono ?_; rintro e wl ⟨rfl, fwl⟩; have gwl := Fr.same (by assumption) fwl; have q0 := gwl.cellN c0; have q1 := gwl.cellN c1; have q2 := gwl.cellN c2))
  all_goals
    go_wp2_with fail
    go_ret
    (go_split_ands)
    exact ⟨rfl, f0.same (by assumption)⟩
end Go.Proofs.YtfkccanjdlajlaaGreatDoor
