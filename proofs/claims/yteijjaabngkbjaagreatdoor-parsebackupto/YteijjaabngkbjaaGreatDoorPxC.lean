/- The law ParseBack. -/
import Derived.Test.YteijjaabngkbjaaGreatDoorPzA
import Derived.Test.YteijjaabngkbjaaGreatDoorPwP
import Derived.Test.YteijjaabngkbjaaGreatDoorTrX3
namespace Go.Proofs.YteijjaabngkbjaaGreatDoor
open Go.RowKit Lx Te
set_option linter.unusedSimpArgs false
set_option linter.unusedVariables false

set_option maxRecDepth 20000 in
set_option maxHeartbeats 1000000 in
theorem mback_bad (m : Mo) (ao aod : Option Addr) (cap capd : Nat) (w : World) (E : Int) (hE : (E != 0) = true) (ht : F.Tab w)
    (k1 : ∀ w1, Fr (fun _ => False) w w1 → Calls Tryz.prog 8 #[moV m ao cap aod capd] w1 fun e w' => e = .returned (.tuple #[ct [], ci E]) ∧ Fr (fun _ => False) w1 w') :
    Calls Tryz.prog 5 #[moV m ao cap aod capd] w fun e w' => e = .returned (.bool true) ∧ Fr (fun _ => False) w w' := by
  have f0 : Fr (fun _ => False) w (w.alloc (moO m (.slice ao m.imports.length cap) (.slice aod m.decls.length capd))) := Fr.alloc _ _ _
  go_enter Tryz.func5, Tryz.ntmps5
  go_wp2_with fail
  go_at_call 8
  refine (k1 _ f0).mono ?_
  rintro e w1 ⟨rfl, f1⟩
  have g1 := f0.same f1
  go_wp2_with fail
  go_at_call 13
  refine (alive7_any _ (tab_fr ht g1)).mono ?_
  rintro e w3 ⟨rfl, f3⟩
  go_wp2_with fail
  go_ret
  exact ⟨rfl, g1.same f3⟩
set_option maxRecDepth 20000 in
set_option maxHeartbeats 1000000 in
theorem mback_ok (m : Mo) (ao aod : Option Addr) (cap capd : Nat) (w : World) (T : By) (hT : T.length ≤ 140737488351232) (hv : MoI w m (moV m ao cap aod capd)) (ht : F.Tab w)
    (k1 : ∀ w1, Fr (fun _ => False) w w1 → Calls Tryz.prog 8 #[moV m ao cap aod capd] w1 fun e w' => e = .returned (.tuple #[ct T, ci 0]) ∧ Fr (fun _ => False) w1 w')
    (hS : Hidden (Pz.parS T = some (some m, 0, 0))) :
    Calls Tryz.prog 5 #[moV m ao cap aod capd] w fun e w' => e = .returned (.bool true) ∧ Fr (fun _ => False) w w' := by
  have f0 : Fr (fun _ => False) w (w.alloc (moO m (.slice ao m.imports.length cap) (.slice aod m.decls.length capd))) := Fr.alloc _ _ _
  have hbx : Hidden ((w.alloc (moO m (.slice ao m.imports.length cap) (.slice aod m.decls.length capd))).heap[w.heap.size]? = some (moO m (.slice ao m.imports.length cap) (.slice aod m.decls.length capd))) := alloc_new _ _
  go_enter Tryz.func5, Tryz.ntmps5
  go_wp2_with fail
  go_at_call 8
  refine (k1 _ f0).mono ?_
  rintro e w1 ⟨rfl, f1⟩
  have g1 := f0.same f1
  have k2 : Calls Tryz.prog 14 #[ct T] w1 fun e w' => ∃ ao cap ao' cap', e = .returned (.tuple #[.agg #[ct m.name, .slice ao m.imports.length cap, .slice ao' m.decls.length cap'], ci 0, ci 0]) ∧ SvL w' ao cap m.imports ∧ DeL w' ao' cap' m.decls ∧ Fr (fun _ => False) w1 w' := par_any T (some m) 0 0 (by omega) hS w1 (tab_fr ht g1)
  go_wp2_with fail
  go_at_call 14
  refine k2.mono ?_
  rintro e w2 ⟨bo, bap, bod, bapd, rfl, s2, d2, f2⟩
  have g2 := g1.same f2
  have fa := Fr.alloc (fun _ => False) w2 (moO m (.slice bo m.imports.length bap) (.slice bod m.decls.length bapd))
  have g3 := g2.same fa
  obtain ⟨c0, c1, c2⟩ := mo_box (fa.heap (f2.heap (f1.heap hbx (fun f => f)) (fun f => f)) (fun f => f))
  have hby : Hidden ((w2.alloc (moO m (.slice bo m.imports.length bap) (.slice bod m.decls.length bapd))).heap[w2.heap.size]? = some (moO m (.slice bo m.imports.length bap) (.slice bod m.decls.length bapd))) := alloc_new _ _
  obtain ⟨d0, d1, d2'⟩ := mo_box hby
  have ks := X.same_any m m (moV m ao cap aod capd) (moV m bo bap bod bapd) _ (hv.keep g3) (⟨bo, bap, bod, bapd, rfl, s2.keep fa, d2.keep fa⟩ : MoI (w2.alloc (moO m (.slice bo m.imports.length bap) (.slice bod m.decls.length bapd))) m (moV m bo bap bod bapd))
  rw [decide_eq_true rfl] at ks
  go_wp2_with fail
  go_at_call 15
  refine ks.mono ?_
  rintro e w4 ⟨rfl, f4⟩
  have g5 := g3.same f4
  go_wp2_with fail
  go_at_call 13
  refine (alive7_any _ (tab_fr ht g5)).mono ?_
  rintro e w5 ⟨rfl, f5⟩
  go_wp2_with fail
  go_ret
  exact ⟨rfl, g5.same f5⟩
theorem parseBack.walk (v : Value) (m : Mo) (w : World) (hv : MoI w m v) (om : OkM m) (hl : m.name.length + (m.imports.map fun p => p.length + 1).sum + (m.decls.map In.bkD).sum + 1 ≤ 1048576) (ht : F.Tab w) :
    Calls Tryz.prog 5 #[v] w fun e w' => e = .returned (.bool true) ∧ Fr (fun _ => False) w w' := by
  have hsz : m.imports.length + Pz.fDs m.decls ≤ 10000000 := by
    have := im_sum m.imports
    have := fDs_bk m.decls
    omega
  have hN : ∀ d ∈ m.decls, Pz.NnD d := fun d hd => nnD_of (om.decls d hd)
  have k1 := fun (w1 : World) (f : Fr (fun _ => False) w w1) => print_up m v w1 om (hv.keep f) (tab_fr ht f) hsz
  have hv0 := hv
  obtain ⟨ao, cap, aod, capd, rfl, _, _⟩ := hv
  unfold prS at k1
  by_cases he : errM rnS cnS m = 0
  · simp only [he, if_true] at k1
    by_cases h3 : (lexS wordsL valS (moT txS m)).2.2 = 3
    · simp only [h3, if_true] at k1
      exact mback_bad m ao aod cap capd w 3 (by decide) ht k1
    · simp only [if_neg h3] at k1
      exact mback_ok m ao aod cap capd w (moT txS m) (by have := mo_len m he hN hsz; omega) hv0 ht k1 (pr_back m he hN h3)
  · simp only [if_neg he] at k1
    exact mback_bad m ao aod cap capd w _ (by simpa using he) ht k1
end Go.Proofs.YteijjaabngkbjaaGreatDoor
