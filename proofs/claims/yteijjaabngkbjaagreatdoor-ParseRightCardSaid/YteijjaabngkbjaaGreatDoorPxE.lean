/- The law ParseRight. -/
import Derived.Test.YteijjaabngkbjaaGreatDoorPzC
import Derived.Test.YteijjaabngkbjaaGreatDoorPwP
import Derived.Test.YteijjaabngkbjaaGreatDoorTrX3
namespace Go.Proofs.YteijjaabngkbjaaGreatDoor
open Go.RowKit Lx Te
set_option linter.unusedSimpArgs false
set_option linter.unusedVariables false

set_option maxRecDepth 20000 in
set_option maxHeartbeats 1000000 in
theorem right_no (l : By) (p : Nat) (c : Int) (hl : l.length ≤ 9223372036854775807) (hS : Hidden (Pz.parS l = some (none, p, c))) (hc : (c != 0) = true) (w : World) (ht : F.Tab w) :
    Calls Tryz.prog 7 #[ct l] w fun e w' => e = .returned (.bool true) ∧ Fr (fun _ => False) w w' := by
  have k1 : Calls Tryz.prog 14 #[ct l] w fun e w' => ∃ ao cap ao' cap', e = .returned (.tuple #[.agg #[ct [], .slice ao 0 cap, .slice ao' 0 cap'], ci (p : Int), ci c]) ∧ SvL w' ao cap [] ∧ DeL w' ao' cap' [] ∧ Fr (fun _ => False) w w' := par_any l none p c hl hS w ht
  go_enter Tryz.func7, Tryz.ntmps7
  go_wp2_with fail
  go_at_call 14
  refine k1.mono ?_
  rintro e w2 ⟨bo, bap, bod, bapd, rfl, s2, d2, f2⟩
  have fa := Fr.alloc (fun _ => False) w2 (moO ⟨[], [], []⟩ (.slice bo 0 bap) (.slice bod 0 bapd))
  have g3 := f2.same fa
  have ks := X.same_any ⟨[], [], []⟩ ⟨[], [], []⟩ (moV ⟨[], [], []⟩ bo bap bod bapd) (moV ⟨[], [], []⟩ none 0 none 0) (w2.alloc (moO ⟨[], [], []⟩ (.slice bo 0 bap) (.slice bod 0 bapd))) ⟨bo, bap, bod, bapd, rfl, s2.keep fa, d2.keep fa⟩ ⟨none, 0, none, 0, rfl, ⟨Nat.le_refl _, by decide, Or.inl rfl⟩, ⟨Nat.le_refl _, by decide, Or.inl rfl⟩⟩
  rw [decide_eq_true rfl] at ks
  go_wp2_with fail
  go_at_call 15
  refine ks.mono ?_
  rintro e w4 ⟨rfl, f4⟩
  have g5 := g3.same f4
  go_wp2_with fail
  go_at_call 13
  refine (alive7_any _ (tab_fr ht g5)).mono ?_
  rintro e w5 ⟨rfl, f5⟩
  go_wp2_with fail
  go_ret
  exact ⟨rfl, g5.same f5⟩
set_option maxRecDepth 20000 in
set_option maxHeartbeats 2000000 in
theorem right_yes (l : By) (m : Mo) (hl : l.length ≤ 9223372036854775807) (hS : Hidden (Pz.parS l = some (some m, 0, 0))) (om : OkM m) (he : errM rnS cnS m = 0) (hN : ∀ d ∈ m.decls, Pz.NnD d) (hsz : m.imports.length + Pz.fDs m.decls ≤ 10000000) (w : World) (ht : F.Tab w) :
    Calls Tryz.prog 7 #[ct l] w fun e w' => e = .returned (.bool true) ∧ Fr (fun _ => False) w w' := by
  have k1 : Calls Tryz.prog 14 #[ct l] w fun e w' => ∃ ao cap ao' cap', e = .returned (.tuple #[.agg #[ct m.name, .slice ao m.imports.length cap, .slice ao' m.decls.length cap'], ci 0, ci 0]) ∧ SvL w' ao cap m.imports ∧ DeL w' ao' cap' m.decls ∧ Fr (fun _ => False) w w' := par_any l (some m) 0 0 hl hS w ht
  have hlen := mo_len m he hN hsz
  by_cases h3 : (lexS wordsL valS (moT txS m)).2.2 = 3
  · have hpr : prS m = ([], 3) := by unfold prS; rw [if_pos he, if_pos h3]
    clear h3
    go_enter Tryz.func7, Tryz.ntmps7
    go_wp2_with fail
    go_at_call 14
    refine k1.mono ?_
    rintro e w2 ⟨bo, bap, bod, bapd, rfl, s2, d2, f2⟩
    have fa := Fr.alloc (fun _ => False) w2 (moO m (.slice bo m.imports.length bap) (.slice bod m.decls.length bapd))
    have g3 := f2.same fa
    have hbx : Hidden ((w2.alloc (moO m (.slice bo m.imports.length bap) (.slice bod m.decls.length bapd))).heap[w2.heap.size]? = some (moO m (.slice bo m.imports.length bap) (.slice bod m.decls.length bapd))) := alloc_new _ _
    have hv : MoI (w2.alloc (moO m (.slice bo m.imports.length bap) (.slice bod m.decls.length bapd))) m (moV m bo bap bod bapd) := ⟨bo, bap, bod, bapd, rfl, s2.keep fa, d2.keep fa⟩
    have kr := right_any m _ _ om hv
    rw [he] at kr
    obtain ⟨c0, c1, c2⟩ := mo_box hbx
    have hprH : Hidden (prS m = ([], 3)) := hpr
    clear hpr he
    go_wp2_with fail
    go_at_call 11
    refine kr.mono ?_
    rintro e w4 ⟨rfl, f4⟩
    have g4 := g3.same f4
    obtain ⟨c0, c1, c2⟩ := mo_box (f4.heap hbx (fun f => f))
    have kp := print_up m _ w4 om (hv.keep f4) (tab_fr ht g4) hsz
    rw [show prS m = ([], 3) from hprH] at kp
    go_wp2_with fail
    go_at_call 8
    refine kp.mono ?_
    rintro e w5 ⟨rfl, f5⟩
    have g5 := g4.same f5
    go_wp2_with fail
    go_at_call 13
    refine (alive7_any _ (tab_fr ht g5)).mono ?_
    rintro e w6 ⟨rfl, f6⟩
    go_wp2_with fail
    go_ret
    exact ⟨rfl, g5.same f6⟩
  · have hpr : Hidden (prS m = (moT txS m, 0)) := by show _ = _; unfold prS; rw [if_pos he, if_neg h3]
    have hback : Hidden (Pz.parS (moT txS m) = some (some m, 0, 0)) := pr_back m he hN h3
    clear h3
    go_enter Tryz.func7, Tryz.ntmps7
    go_wp2_with fail
    go_at_call 14
    refine k1.mono ?_
    rintro e w2 ⟨bo, bap, bod, bapd, rfl, s2, d2, f2⟩
    have fa := Fr.alloc (fun _ => False) w2 (moO m (.slice bo m.imports.length bap) (.slice bod m.decls.length bapd))
    have g3 := f2.same fa
    have hbx : Hidden ((w2.alloc (moO m (.slice bo m.imports.length bap) (.slice bod m.decls.length bapd))).heap[w2.heap.size]? = some (moO m (.slice bo m.imports.length bap) (.slice bod m.decls.length bapd))) := alloc_new _ _
    have hv : MoI (w2.alloc (moO m (.slice bo m.imports.length bap) (.slice bod m.decls.length bapd))) m (moV m bo bap bod bapd) := ⟨bo, bap, bod, bapd, rfl, s2.keep fa, d2.keep fa⟩
    have kr := right_any m _ _ om hv
    rw [he] at kr
    obtain ⟨c0, c1, c2⟩ := mo_box hbx
    clear he
    go_wp2_with fail
    go_at_call 11
    refine kr.mono ?_
    rintro e w4 ⟨rfl, f4⟩
    have g4 := g3.same f4
    obtain ⟨c0, c1, c2⟩ := mo_box (f4.heap hbx (fun f => f))
    have kp := print_up m _ w4 om (hv.keep f4) (tab_fr ht g4) hsz
    rw [show prS m = (moT txS m, 0) from hpr] at kp
    generalize moT txS m = T at kp hback hlen hpr
    go_wp2_with fail
    go_at_call 8
    refine kp.mono ?_
    rintro e w5 ⟨rfl, f5⟩
    have g5 := g4.same f5
    have k2 : Calls Tryz.prog 14 #[ct T] w5 fun e w' => ∃ ao cap ao' cap', e = .returned (.tuple #[.agg #[ct m.name, .slice ao m.imports.length cap, .slice ao' m.decls.length cap'], ci 0, ci 0]) ∧ SvL w' ao cap m.imports ∧ DeL w' ao' cap' m.decls ∧ Fr (fun _ => False) w5 w' := par_any T (some m) 0 0 (by omega) hback w5 (tab_fr ht g5)
    go_wp2_with fail
    go_at_call 14
    refine k2.mono ?_
    rintro e w6 ⟨co, cap', cod, capd', rfl, s6, d6, f6⟩
    have fb := Fr.alloc (fun _ => False) w6 (moO m (.slice co m.imports.length cap') (.slice cod m.decls.length capd'))
    have g6 := g5.same f6
    have g7 := g6.same fb
    have hby : Hidden ((w6.alloc (moO m (.slice co m.imports.length cap') (.slice cod m.decls.length capd'))).heap[w6.heap.size]? = some (moO m (.slice co m.imports.length cap') (.slice cod m.decls.length capd'))) := alloc_new _ _
    obtain ⟨d0, d1, d2'⟩ := mo_box hby
    obtain ⟨c0, c1, c2⟩ := mo_box (fb.heap (f6.heap (f5.heap (f4.heap hbx (fun f => f)) (fun f => f)) (fun f => f)) (fun f => f))
    have ks := X.same_any m m (moV m bo bap bod bapd) (moV m co cap' cod capd') _ (((hv.keep f4).keep f5).keep (f6.same fb)) (⟨co, cap', cod, capd', rfl, s6.keep fb, d6.keep fb⟩ : MoI (w6.alloc (moO m (.slice co m.imports.length cap') (.slice cod m.decls.length capd'))) m (moV m co cap' cod capd'))
    rw [decide_eq_true rfl] at ks
    go_wp2_with fail
    go_at_call 15
    refine ks.mono ?_
    rintro e w8 ⟨rfl, f8⟩
    have g8 := g7.same f8
    go_wp2_with fail
    go_at_call 13
    refine (alive7_any _ (tab_fr ht g8)).mono ?_
    rintro e w9 ⟨rfl, f9⟩
    go_wp2_with fail
    go_ret
    exact ⟨rfl, g8.same f9⟩
theorem parseRight.walk (l : By) (w : World) (hl : l.length ≤ 140737488351232) (ht : F.Tab w) :
    Calls Tryz.prog 7 #[.string ⟨l.toArray⟩] w fun e w' => e = .returned (.bool true) ∧ Fr (fun _ => False) w w' := by
  rcases par_parts l with ⟨m, ts, h1, h2, h3, h4, h5⟩ | ⟨p, c, h1, h2⟩
  · obtain ⟨a1, a2, a3, a4⟩ := read_right h2 h3 h4
    exact right_yes l m (by omega) h1 a3 a1 a2 a4 w ht
  · exact right_no l p c (by omega) h1 (by simpa using h2) w ht
end Go.Proofs.YteijjaabngkbjaaGreatDoor
