/- The law ParseCuts. -/
import Derived.Test.YteijjaabngkbjaaGreatDoorPzC
import Derived.Test.YteijjaabngkbjaaGreatDoorPwP
import Derived.Test.YteijjaabngkbjaaGreatDoorPsY
namespace Go.Proofs.YteijjaabngkbjaaGreatDoor
open Go.RowKit Lx Te
set_option linter.unusedSimpArgs false
set_option linter.unusedVariables false

set_option maxRecDepth 20000 in
set_option maxHeartbeats 1000000 in
theorem cuts_no (l : By) (z : Int) (p q : Nat) (c er : Int) (ts : List Tok) (hl : l.length ≤ 140737488351232) (hS : Hidden (Pz.parS l = some (none, p, c))) (hc : (c != 0) = true) (hR : Hidden (lexS wordsL valS l = (ts, q, er))) (w : World) (ht : F.Tab w) :
    Calls Tryz.prog 6 #[ct l, ci z] w fun e w' => e = .returned (.bool true) ∧ Fr (fun _ => False) w w' := by
  have k1 : Calls Tryz.prog 14 #[ct l] w fun e w' => ∃ ao cap ao' cap', e = .returned (.tuple #[.agg #[ct [], .slice ao 0 cap, .slice ao' 0 cap'], ci (p : Int), ci c]) ∧ SvL w' ao cap [] ∧ DeL w' ao' cap' [] ∧ Fr (fun _ => False) w w' := par_any l none p c (by omega) hS w ht
  go_enter Tryz.func6, Tryz.ntmps6
  go_wp2_with fail
  go_at_call 14
  refine k1.mono ?_
  rintro e w2 ⟨bo, bap, bod, bapd, rfl, s2, d2, f2⟩
  have fa := Fr.alloc (fun _ => False) w2 (moO ⟨[], [], []⟩ (.slice bo 0 bap) (.slice bod 0 bapd))
  have g3 := f2.same fa
  have kl := lex_any l ts q er (by omega) hR _ (tab_fr ht g3)
  go_wp2_with fail
  go_at_call 16
  refine kl.mono ?_
  rintro e w4 ⟨v4, rfl, r4, f4⟩
  have g5 := g3.same f4
  go_wp2_with fail
  go_at_call 13
  refine (alive7_any _ (tab_fr ht g5)).mono ?_
  rintro e w5 ⟨rfl, f5⟩
  go_wp2_with fail
  go_ret
  exact ⟨rfl, g5.same f5⟩
set_option maxRecDepth 20000 in
set_option maxHeartbeats 1000000 in
theorem cuts_out (l : By) (z : Int) (m : Mo) (ts : List Tok) (hl : l.length ≤ 140737488351232) (hS : Hidden (Pz.parS l = some (some m, 0, 0))) (hR : Hidden (lexS wordsL valS l = (ts, 0, 0))) (hz : z < 0 ∨ (¬ z < 0 ∧ (ts.length : Int) ≤ z)) (hts : ts.length ≤ 1024) (w : World) (ht : F.Tab w) :
    Calls Tryz.prog 6 #[ct l, ci z] w fun e w' => e = .returned (.bool true) ∧ Fr (fun _ => False) w w' := by
  have k1 : Calls Tryz.prog 14 #[ct l] w fun e w' => ∃ ao cap ao' cap', e = .returned (.tuple #[.agg #[ct m.name, .slice ao m.imports.length cap, .slice ao' m.decls.length cap'], ci 0, ci 0]) ∧ SvL w' ao cap m.imports ∧ DeL w' ao' cap' m.decls ∧ Fr (fun _ => False) w w' := par_any l (some m) 0 0 (by omega) hS w ht
  have hts2 : ts.length ≤ 9223372036854775807 := by omega
  rcases hz with hz | ⟨hz, hz2⟩
  all_goals
    go_enter Tryz.func6, Tryz.ntmps6
    go_wp2_with fail
    go_at_call 14
    refine k1.mono ?_
    rintro e w2 ⟨bo, bap, bod, bapd, rfl, s2, d2, f2⟩
    have fa := Fr.alloc (fun _ => False) w2 (moO m (.slice bo m.imports.length bap) (.slice bod m.decls.length bapd))
    have g3 := f2.same fa
    have kl := lex_any l ts 0 0 (by omega) hR _ (tab_fr ht g3)
    go_wp2_with fail
    go_at_call 16
    refine kl.mono ?_
    rintro e w4 ⟨v4, rfl, r4, f4⟩
    have g5 := g3.same f4
    obtain ⟨ao, cap, rfl, hcap, hmax, hcells⟩ := r4.tk
    clear hcells r4
    go_wp2_with fail
    go_at_call 13
    refine (alive7_any _ (tab_fr ht g5)).mono ?_
    rintro e w5 ⟨rfl, f5⟩
    go_wp2_with fail
    go_ret
    exact ⟨rfl, g5.same f5⟩
section
variable (l : By) (i : Nat) (m : Mo) (ts : List Tok) (t : Tok) (hl : l.length ≤ 140737488351232) (hS : Hidden (Pz.parS l = some (some m, 0, 0))) (hR : Hidden (lexS wordsL valS l = (ts, 0, 0))) (hi : i < ts.length) (hts : ts.length ≤ 1024) (hti : Hidden (ts[i]? = some t)) (htp : t.p ≤ l.length) (w : World) (ht : F.Tab w)
include hl hS hR hi hts hti htp ht
set_option maxRecDepth 20000 in
set_option maxHeartbeats 2000000 in
theorem cuts_syn (hS2 : Hidden (Pz.parS (l.take t.p) = some (none, (l.take t.p).length, 11))) :
    Calls Tryz.prog 6 #[ct l, ci (i : Int)] w fun e w' => e = .returned (.bool true) ∧ Fr (fun _ => False) w w' := by
  have k1 : Calls Tryz.prog 14 #[ct l] w fun e w' => ∃ ao cap ao' cap', e = .returned (.tuple #[.agg #[ct m.name, .slice ao m.imports.length cap, .slice ao' m.decls.length cap'], ci 0, ci 0]) ∧ SvL w' ao cap m.imports ∧ DeL w' ao' cap' m.decls ∧ Fr (fun _ => False) w w' := par_any l (some m) 0 0 (by omega) hS w ht
  have hts2 : ts.length ≤ 9223372036854775807 := by omega
  have hsl := fun w => slice_to l t.p htp (by omega) w
  obtain ⟨U, hU⟩ : ∃ U, l.take t.p = U := ⟨_, rfl⟩
  have hUl : U.length ≤ 140737488351232 := by rw [← hU, List.length_take]; omega
  rw [hU] at hsl hS2
  have hsU := str_len U
  clear hU
  go_enter Tryz.func6, Tryz.ntmps6
  go_wp2_with fail
  go_at_call 14
  refine k1.mono ?_
  rintro e w2 ⟨bo, bap, bod, bapd, rfl, s2, d2, f2⟩
  have fa := Fr.alloc (fun _ => False) w2 (moO m (.slice bo m.imports.length bap) (.slice bod m.decls.length bapd))
  have g3 := f2.same fa
  have kl := lex_any l ts 0 0 (by omega) hR _ (tab_fr ht g3)
  go_wp2_with fail
  go_at_call 16
  refine kl.mono ?_
  rintro e w4 ⟨v4, rfl, r4, f4⟩
  have g5 := g3.same f4
  obtain ⟨ao, cap, rfl, hcap, hmax, hcells⟩ := r4.tk
  have hmax2 : cap ≤ 9223372036854775807 := by unfold maxLen at hmax; omega
  rcases hcells with h0 | ⟨bk, off, rfl, hc⟩
  · rw [h0] at hi; simp at hi
  have e1 : w4.cell? ⟨bk, off + i * 5 + 1, none⟩ = some (ct t.x) := hc i t hti 1 _ rfl
  have e4 : w4.cell? ⟨bk, off + i * 5 + 4, none⟩ = some (ci (t.p : Int)) := hc i t hti 4 _ rfl
  clear hc r4
  go_wp2_with fail
  go_at_call 13
  refine (alive7_any _ (tab_fr ht g5)).mono ?_
  rintro e w5 ⟨rfl, f5⟩
  have g6 := g5.same f5
  have d4 := f5.cellN e4
  have k2 : Calls Tryz.prog 14 #[ct U] w5 fun e w' => ∃ ao cap ao' cap', e = .returned (.tuple #[.agg #[ct [], .slice ao 0 cap, .slice ao' 0 cap'], ci (U.length : Int), ci 11]) ∧ SvL w' ao cap [] ∧ DeL w' ao' cap' [] ∧ Fr (fun _ => False) w5 w' := par_any U none U.length 11 (by omega) hS2 w5 (tab_fr ht g6)
  go_wp2_with fail
  go_at_call 14
  refine k2.mono ?_
  rintro e w7 ⟨co, cap', cod, capd', rfl, s7, d7, f7⟩
  have g7 := g6.same f7
  have fb := Fr.alloc (fun _ => False) w7 (moO ⟨[], [], []⟩ (.slice co 0 cap') (.slice cod 0 capd'))
  go_wp2_with fail
  go_ret
  exact ⟨rfl, g7.same fb⟩
set_option maxRecDepth 20000 in
set_option maxHeartbeats 2000000 in
theorem cuts_deep (j : Nat) (la : Tok) (hla : Hidden (ts[j]? = some la)) (hij : (i : Int) - 1 = (j : Int)) (hx : t.x = [41]) (hlx : la.x = [40]) (hS2 : Hidden (Pz.parS (l.take t.p) = some (none, la.p, 13))) :
    Calls Tryz.prog 6 #[ct l, ci (i : Int)] w fun e w' => e = .returned (.bool true) ∧ Fr (fun _ => False) w w' := by
  have k1 : Calls Tryz.prog 14 #[ct l] w fun e w' => ∃ ao cap ao' cap', e = .returned (.tuple #[.agg #[ct m.name, .slice ao m.imports.length cap, .slice ao' m.decls.length cap'], ci 0, ci 0]) ∧ SvL w' ao cap m.imports ∧ DeL w' ao' cap' m.decls ∧ Fr (fun _ => False) w w' := par_any l (some m) 0 0 (by omega) hS w ht
  have hts2 : ts.length ≤ 9223372036854775807 := by omega
  have hsl := fun w => slice_to l t.p htp (by omega) w
  obtain ⟨U, hU⟩ : ∃ U, l.take t.p = U := ⟨_, rfl⟩
  have hUl : U.length ≤ 140737488351232 := by rw [← hU, List.length_take]; omega
  rw [hU] at hsl hS2
  have hjl : j < ts.length := by omega
  have hi0 : (0 : Int) < (i : Int) := by omega
  clear hU
  go_enter Tryz.func6, Tryz.ntmps6
  go_wp2_with fail
  go_at_call 14
  refine k1.mono ?_
  rintro e w2 ⟨bo, bap, bod, bapd, rfl, s2, d2, f2⟩
  have fa := Fr.alloc (fun _ => False) w2 (moO m (.slice bo m.imports.length bap) (.slice bod m.decls.length bapd))
  have g3 := f2.same fa
  have kl := lex_any l ts 0 0 (by omega) hR _ (tab_fr ht g3)
  go_wp2_with fail
  go_at_call 16
  refine kl.mono ?_
  rintro e w4 ⟨v4, rfl, r4, f4⟩
  have g5 := g3.same f4
  obtain ⟨ao, cap, rfl, hcap, hmax, hcells⟩ := r4.tk
  have hmax2 : cap ≤ 9223372036854775807 := by unfold maxLen at hmax; omega
  rcases hcells with h0 | ⟨bk, off, rfl, hc⟩
  · rw [h0] at hi; simp at hi
  have e1 : w4.cell? ⟨bk, off + i * 5 + 1, none⟩ = some (ct t.x) := hc i t hti 1 _ rfl
  have e4 : w4.cell? ⟨bk, off + i * 5 + 4, none⟩ = some (ci (t.p : Int)) := hc i t hti 4 _ rfl
  have y1 : w4.cell? ⟨bk, off + j * 5 + 1, none⟩ = some (ct la.x) := hc j la hla 1 _ rfl
  have y4 : w4.cell? ⟨bk, off + j * 5 + 4, none⟩ = some (ci (la.p : Int)) := hc j la hla 4 _ rfl
  rw [hx] at e1
  rw [hlx] at y1
  clear hc r4 hx hlx
  go_wp2_with fail
  go_at_call 13
  refine (alive7_any _ (tab_fr ht g5)).mono ?_
  rintro e w5 ⟨rfl, f5⟩
  have g6 := g5.same f5
  have d4 := f5.cellN e4
  have k2 : Calls Tryz.prog 14 #[ct U] w5 fun e w' => ∃ ao cap ao' cap', e = .returned (.tuple #[.agg #[ct [], .slice ao 0 cap, .slice ao' 0 cap'], ci (la.p : Int), ci 13]) ∧ SvL w' ao cap [] ∧ DeL w' ao' cap' [] ∧ Fr (fun _ => False) w5 w' := par_any U none la.p 13 (by omega) hS2 w5 (tab_fr ht g6)
  go_wp2_with fail
  go_at_call 14
  refine k2.mono ?_
  rintro e w7 ⟨co, cap', cod, capd', rfl, s7, d7, f7⟩
  have g7 := g6.same f7
  have fb := Fr.alloc (fun _ => False) w7 (moO ⟨[], [], []⟩ (.slice co 0 cap') (.slice cod 0 capd'))
  have gg := (f5.same f7).same fb
  have q1 := gg.cellN e1
  have q4 := gg.cellN e4
  have z1 := gg.cellN y1
  have z4 := gg.cellN y4
  go_wp2_with fail
  go_ret
  exact ⟨rfl, g7.same fb⟩
set_option maxRecDepth 20000 in
set_option maxHeartbeats 4000000 in
theorem cuts_ok (m' : Mo) (h3 : 3 ≤ i) (hd : m'.decls.length ≤ 64) (hx : t.x = [105, 109, 112, 111, 114, 116] ∨ t.x = [101, 120, 112, 111, 114, 116] ∨ t.x = [99, 111, 110, 115, 116] ∨ t.x = [118, 97, 114] ∨ t.x = [102, 110]) (hS2 : Hidden (Pz.parS (l.take t.p) = some (some m', 0, 0))) :
    Calls Tryz.prog 6 #[ct l, ci (i : Int)] w fun e w' => e = .returned (.bool true) ∧ Fr (fun _ => False) w w' := by
  have k1 : Calls Tryz.prog 14 #[ct l] w fun e w' => ∃ ao cap ao' cap', e = .returned (.tuple #[.agg #[ct m.name, .slice ao m.imports.length cap, .slice ao' m.decls.length cap'], ci 0, ci 0]) ∧ SvL w' ao cap m.imports ∧ DeL w' ao' cap' m.decls ∧ Fr (fun _ => False) w w' := par_any l (some m) 0 0 (by omega) hS w ht
  have hts2 : ts.length ≤ 9223372036854775807 := by omega
  have hsl := fun w => slice_to l t.p htp (by omega) w
  obtain ⟨U, hU⟩ : ∃ U, l.take t.p = U := ⟨_, rfl⟩
  have hUl : U.length ≤ 140737488351232 := by rw [← hU, List.length_take]; omega
  rw [hU] at hsl hS2
  have h3i : (3 : Int) ≤ (i : Int) := by omega
  have hdi : (m'.decls.length : Int) ≤ 64 := by omega
  clear hU
  rcases hx with hx | hx | hx | hx | hx
  all_goals
    go_enter Tryz.func6, Tryz.ntmps6
    go_wp2_with fail
    go_at_call 14
    refine k1.mono ?_
    rintro e w2 ⟨bo, bap, bod, bapd, rfl, s2, d2, f2⟩
    have fa := Fr.alloc (fun _ => False) w2 (moO m (.slice bo m.imports.length bap) (.slice bod m.decls.length bapd))
    have g3 := f2.same fa
    have kl := lex_any l ts 0 0 (by omega) hR _ (tab_fr ht g3)
    go_wp2_with fail
    go_at_call 16
    refine kl.mono ?_
    rintro e w4 ⟨v4, rfl, r4, f4⟩
    have g5 := g3.same f4
    obtain ⟨ao, cap, rfl, hcap, hmax, hcells⟩ := r4.tk
    have hmax2 : cap ≤ 9223372036854775807 := by unfold maxLen at hmax; omega
    rcases hcells with h0 | ⟨bk, off, rfl, hc⟩
    · rw [h0] at hi; simp at hi
    have e1 : w4.cell? ⟨bk, off + i * 5 + 1, none⟩ = some (ct t.x) := hc i t hti 1 _ rfl
    have e4 : w4.cell? ⟨bk, off + i * 5 + 4, none⟩ = some (ci (t.p : Int)) := hc i t hti 4 _ rfl
    rw [hx] at e1
    have hxH : Hidden (t.x = _) := hx
    clear hc r4 hx
    go_wp2_with fail
    go_at_call 13
    refine (alive7_any _ (tab_fr ht g5)).mono ?_
    rintro e w5 ⟨rfl, f5⟩
    have g6 := g5.same f5
    have d4 := f5.cellN e4
    have k2 : Calls Tryz.prog 14 #[ct U] w5 fun e w' => ∃ ao cap ao' cap', e = .returned (.tuple #[.agg #[ct m'.name, .slice ao m'.imports.length cap, .slice ao' m'.decls.length cap'], ci 0, ci 0]) ∧ SvL w' ao cap m'.imports ∧ DeL w' ao' cap' m'.decls ∧ Fr (fun _ => False) w5 w' := par_any U (some m') 0 0 (by omega) hS2 w5 (tab_fr ht g6)
    go_wp2_with fail
    go_at_call 14
    refine k2.mono ?_
    rintro e w7 ⟨co, cap', cod, capd', rfl, s7, d7, f7⟩
    have g7 := g6.same f7
    have m7 : capd' ≤ 9223372036854775807 := by have := d7.2.1; unfold maxLen at this; omega
    have m7' := d7.1
    have fb := Fr.alloc (fun _ => False) w7 (moO m' (.slice co m'.imports.length cap') (.slice cod m'.decls.length capd'))
    have hby : Hidden ((w7.alloc (moO m' (.slice co m'.imports.length cap') (.slice cod m'.decls.length capd'))).heap[w7.heap.size]? = some (moO m' (.slice co m'.imports.length cap') (.slice cod m'.decls.length capd'))) := alloc_new _ _
    obtain ⟨x0, x1, x2⟩ := mo_box hby
    have gg := (f5.same f7).same fb
    have q1 := gg.cellN e1
    have q4 := gg.cellN e4
    go_wp2_with fail
    go_ret
    exact ⟨rfl, g7.same fb⟩
end
theorem parseCuts.walk (l : By) (z : Int) (w : World) (hl : l.length ≤ 140737488351232) (hz : (Lit.int .i64 z).wf = true) (ht : F.Tab w) :
    Calls Tryz.prog 6 #[.string ⟨l.toArray⟩, .int .i64 z] w fun e w' => e = .returned (.bool true) ∧ Fr (fun _ => False) w w' := by
  rcases par_parts l with ⟨m, ts, h1, h2, h3, h4, h5⟩ | ⟨p, c, h1, h2⟩
  rotate_left
  · obtain ⟨ts, q, er, hR⟩ : ∃ ts q er, lexS wordsL valS l = (ts, q, er) := ⟨_, _, _, rfl⟩
    exact cuts_no l z p q c er ts hl h1 (by simpa using h2) hR w ht
  by_cases hin : 0 ≤ z ∧ z < (ts.length : Int)
  · obtain ⟨i, rfl⟩ : ∃ i : Nat, z = (i : Int) := ⟨z.toNat, by omega⟩
    have hi : i < ts.length := by omega
    obtain ⟨t, hti⟩ : ∃ t, ts[i]? = some t := ⟨ts[i], List.getElem?_eq_getElem hi⟩
    obtain ⟨htp, hcut⟩ := lexS_cut wordsL valS l ts 0 h2 i t hti
    have hS : ∀ r, Pz.parT (ts.take i) (l.take t.p).length = some r → Pz.parS (l.take t.p) = some r := by
      intro r hr
      unfold Pz.parS
      rw [hcut, if_pos rfl]
      exact hr
    have hr1 : ∀ x ∈ ts.take i, Pz.TokR rnS cnS x := fun x hx => tok_r h2 x (List.mem_of_mem_take hx)
    rcases Pz.parT_cut ts l.length m 0 0 h3 (Pz.lex_ne h2) i t hti (l.take t.p).length with hA | ⟨hW, hi3, m', hA⟩ | ⟨hx, j, la, hij, hla, hlx, hA⟩
    · exact cuts_syn l i m ts t hl h1 h2 hi h4 hti htp w ht (hS _ hA)
    · have hright := (Pz.parT_right (rn := rnS) (cn := cnS) (by decide) (by decide) _ _ m' 0 0 hr1 hA).1
      have hd : m'.decls.length ≤ 64 := by
        unfold errM at hright
        obtain ⟨_, a2⟩ := Pz.orE_0 hright
        obtain ⟨_, a4⟩ := Pz.orE_0 a2
        obtain ⟨_, a6⟩ := Pz.orE_0 a4
        obtain ⟨a7, _⟩ := Pz.orE_0 a6
        apply Classical.byContradiction
        intro hc
        rw [if_pos (by omega)] at a7
        exact absurd a7 (by decide)
      exact cuts_ok l i m ts t hl h1 h2 hi h4 hti htp w ht m' hi3 hd hW (hS _ hA)
    · exact cuts_deep l i m ts t hl h1 h2 hi h4 hti htp w ht j la hla (by omega) hx hlx (hS _ hA)
  · exact cuts_out l z m ts hl h1 h2 (by omega) h4 w ht
end Go.Proofs.YteijjaabngkbjaaGreatDoor
