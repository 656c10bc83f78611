/- The law TreePrints. -/
import Derived.Test.YteijjaabngkbjaaGreatDoorPvE
import Derived.Test.YteijjaabngkbjaaGreatDoorTrTAll
namespace Go.Proofs.YteijjaabngkbjaaGreatDoor
open Go.RowKit Lx Te
set_option linter.unusedSimpArgs false
set_option linter.unusedVariables false

set_option maxRecDepth 20000 in
set_option maxHeartbeats 1000000 in
theorem treePrints.walk (v : Value) (m : Mo) (w : World) (hv : MoI w m v) (om : OkM m) (hl : m.name.length + (m.imports.map fun p => p.length + 1).sum + (m.decls.map In.bkD).sum + 1 ≤ 1048576) (ht : F.Tab w) :
    Calls Tryz.prog 3 #[v] w fun e w' => e = .returned (.bool true) ∧ Fr (fun _ => False) w w' := by
  have hsz : m.imports.length + Pz.fDs m.decls ≤ 10000000 := by
    have := im_sum m.imports
    have := fDs_bk m.decls
    omega
  have k1 := fun (w1 : World) (f : Fr (fun _ => False) w w1) => print_up m v w1 om (hv.keep f) (tab_fr ht f) hsz
  have k2 := fun (w1 : World) (f : Fr (fun _ => False) w w1) => V.print_up m v w1 om (hv.keep f) hsz
  have hv0 := hv
  obtain ⟨ao, cap, aod, capd, rfl, _, _⟩ := hv
  obtain ⟨s, hs⟩ : ∃ s, (prS m).1 = s := ⟨_, rfl⟩
  obtain ⟨c, hc⟩ : ∃ c, (prS m).2 = c := ⟨_, rfl⟩
  rw [hs, hc] at k1 k2
  have hss : (s == s) = true := by simp
  have hcc : (c == c) = true := by simp
  clear hs hc hl hsz
  have f0 : Fr (fun _ => False) w (w.alloc (moO m (.slice ao m.imports.length cap) (.slice aod m.decls.length capd))) := Fr.alloc _ _ _
  have hbx : Hidden ((w.alloc (moO m (.slice ao m.imports.length cap) (.slice aod m.decls.length capd))).heap[w.heap.size]? = some (moO m (.slice ao m.imports.length cap) (.slice aod m.decls.length capd))) := alloc_new _ _
  go_enter Tryz.func3, Tryz.ntmps3
  go_wp2_with fail
  go_at_call 8
  refine (k1 _ f0).mono ?_
  rintro e w1 ⟨rfl, f1⟩
  have g1 := f0.same f1
  obtain ⟨c0, c1, c2⟩ := mo_box (f1.heap hbx (fun f => f))
  go_wp2_with fail
  go_at_call 9
  refine (k2 _ g1).mono ?_
  rintro e w2 ⟨rfl, f2⟩
  have g2 := g1.same f2
  go_wp2_with fail
  go_at_call 10
  refine (live_any _ (tab_fr ht g2)).mono ?_
  rintro e w3 ⟨rfl, f3⟩
  go_wp2_with fail
  go_ret
  exact ⟨rfl, g2.same f3⟩
end Go.Proofs.YteijjaabngkbjaaGreatDoor
