/- CodeVerifies, CodeShapes. -/
import Derived.Test.YtnmcehpdiopaiaaGreatDoorCdGoAll
import Derived.Test.YtnmcehpdiopaiaaGreatDoorCdLAll
import Derived.Test.YtnmcehpdiopaiaaGreatDoorCdZzAll
import Derived.Deep.RegionHeld3
namespace Go.Proofs.YtnmcehpdiopaiaaGreatDoor.Cd
open Go.RowKit Ty
set_option linter.unusedSimpArgs false
set_option linter.unusedVariables false

set_option maxRecDepth 20000 in
set_option maxHeartbeats 4000000 in
theorem verifies_walk (f : Fu) (p : Fm) (a0 a2 a3 a4 a5 : Option Addr) (c0 c2 c3 c4 c5 : Nat) (w : World) (h0 : InL w a0 c0 f.sg.ps) (h2 : InL w a2 c2 f.loc) (h3 : IL w a3 c3 f.cd) (h4 : SgL w a4 c4 p.fns) (h5 : InL w a5 c5 p.vars)
    (hb0 : f.sg.ps.length ≤ 17592186044416) (hb2 : f.loc.length ≤ 17592186044416) (hb3 : f.cd.length ≤ 4398046510976) (hb4 : p.fns.length ≤ 4398046510976) (hb5 : p.vars.length ≤ 17592186044416) (hps : ∀ g ∈ p.fns, g.ps.length ≤ 17592186044416) (hok : ∀ i ∈ f.cd, OkIn i) (ht : F.Tab w) :
    Calls Tryz.prog 3 #[.agg (fnV f a0 a2 a3 c0 c2 c3), .agg (fmV p a4 a5 c4 c5)] w fun e w' => e = .returned (.bool true) ∧ Fr (fun _ => False) w w' := by
  obtain ⟨V, hV⟩ : ∃ W, W = (w.alloc (.cells (fnV f a0 a2 a3 c0 c2 c3) 27 (0, 0))).alloc (.cells (fmV p a4 a5 c4 c5) 30 (0, 0)) := ⟨_, rfl⟩
  have fV : Fr (fun _ => False) w V := by rw [hV]; exact (Fr.alloc _ _ _).same (Fr.alloc _ _ _)
  have r4 : V.heap[w.heap.size]? = some (.cells (fnV f a0 a2 a3 c0 c2 c3) 27 (0, 0)) := by rw [hV]; exact heap_alloc2_old _ _ _
  have r5 : V.heap[w.heap.size + 1]? = some (.cells (fmV p a4 a5 c4 c5) 30 (0, 0)) := by rw [hV]; exact heap_alloc2_new _ _ _
  obtain ⟨y0, y1, y2, y3⟩ := box4 r4
  have z0 : V.cell? ⟨w.heap.size + 1, 0, none⟩ = some (.slice a4 p.fns.length c4) := cell_of_row _ _ 0 _ _ _ r5
  have z1 : V.cell? ⟨w.heap.size + 1, 1, none⟩ = some (.slice a5 p.vars.length c5) := cell_of_row _ _ 1 _ _ _ r5
  have kF : ∀ W, Fr (fun _ => False) V W → _ := fun W hW => fn_lit f a0 a2 a3 c0 c2 c3 V.heap.size W (h0.keep (fV.same hW)) (h2.keep (fV.same hW)) (h3.keep (fV.same hW)) hb0 hb2 hb3 hW.size
  have kP : ∀ W, Fr (fun _ => False) V W → _ := fun W hW => frame_lit p a4 a5 c4 c5 V.heap.size W (h4.keep (fV.same hW)) (h5.keep (fV.same hW)) hb4 hb5 hps hW.size
  have iF : Fi w f p a0 a2 a3 a4 a5 c0 c2 c3 c4 c5 := ⟨h0, h2, h3, h4, h5, hok, hps, ht⟩
  have hVH : Hidden (V = _) := hV
  have fVH : Hidden (Fr (fun _ => False) w V) := fV
  have iFH : Hidden (Fi w f p a0 a2 a3 a4 a5 c0 c2 c3 c4 c5) := iF
  have hokH : Hidden (∀ i ∈ f.cd, OkIn i) := hok
  have hpsH : Hidden (∀ g ∈ p.fns, g.ps.length ≤ 17592186044416) := hps
  have htH : Hidden (F.Tab w) := ht
  clear hV fV r4 r5 iF h0 h2 h3 h4 h5 hb0 hb2 hb3 hb4 hb5 hps hok ht
  go_enter Tryz.func3, Tryz.ntmps3
  go_upto_region 1 with fail
  rw [← (show V = _ from hVH)]
  clear hVH
  go_cut [5, 6] (fun av ev wx => av = ci (verS f p).1 ∧ ev = ci (verS f p).2 ∧ Fr (fun _ => False) V wx)
  case first =>
    go_region_held3 (fun w' => w'.cell? ⟨w.heap.size, 0, none⟩ = some (.slice a0 f.sg.ps.length c0) ∧ w'.cell? ⟨w.heap.size, 1, none⟩ = some (ci f.sg.res) ∧ w'.cell? ⟨w.heap.size, 2, none⟩ = some (.slice a2 f.loc.length c2) ∧ w'.cell? ⟨w.heap.size, 3, none⟩ = some (.slice a3 f.cd.length c3) ∧ w'.cell? ⟨w.heap.size + 1, 0, none⟩ = some (.slice a4 p.fns.length c4) ∧ w'.cell? ⟨w.heap.size + 1, 1, none⟩ = some (.slice a5 p.vars.length c5))
      (first | (refine ⟨by with_reducible assumption, by with_reducible assumption, by with_reducible assumption, by with_reducible assumption, by with_reducible assumption, by with_reducible assumption⟩) | go_keep) (first
      | (go_at_call 6; refine (kF _ (by first | exact Fr.refl _ _ | exact Fr.drew _ _)).mono ?_; rintro e w1 ⟨b0, b2, b3, d0, d2, d3, rfl, hFn, f1'⟩
         have f1 : Fr (fun _ => False) V w1 := (by first | exact f1' | exact (Fr.drew _ _).same f1')
         have y0a := f1.cellN y0; have y1a := f1.cellN y1; have y2a := f1.cellN y2; have y3a := f1.cellN y3; have z0a := f1.cellN z0; have z1a := f1.cellN z1
         have hFnH : Hidden (FnO w1 V.heap.size (.agg (fnV f b0 b2 b3 d0 d2 d3)) f) := hFn
         clear hFn f1')
      | (go_at_call 7; refine (kP _ (by first | exact f1 | exact f1.same (Fr.drew _ _))).mono ?_; rintro e w2 ⟨b4, b5, d4, d5, rfl, hP, f2⟩
         have g2 : Fr (fun _ => False) V w2 := f1.same f2
         have y0b := f2.cellN y0a; have y1b := f2.cellN y1a; have y2b := f2.cellN y2a; have y3b := f2.cellN y3a; have z0b := f2.cellN z0a; have z1b := f2.cellN z1a)
      | (go_at_call 5; refine (verify_any f p b0 b2 b3 b4 b5 d0 d2 d3 d4 d5 _ _ _ _ _ rfl rfl rfl rfl rfl w2 (fi_lit (FnO.keepN (show FnO w1 V.heap.size _ f from hFnH) f2) hP hokH hpsH (tab_fr htH ((show Fr (fun _ => False) w V from fVH).same g2)))).mono ?_; rintro e w3 ⟨rfl, f3⟩
         have y0c := f3.cellN y0b; have y1c := f3.cellN y1b; have y2c := f3.cellN y2b; have y3c := f3.cellN y3b; have z0c := f3.cellN z0b; have z1c := f3.cellN z1b))
    all_goals go_wp2_with fail
    all_goals go_meet
    all_goals
      exact ⟨rfl, rfl, g2.same f3⟩
  case rest =>
    obtain ⟨rfl, rfl, fx⟩ := hcut
    replace y0 := fx.cellN y0; replace y1 := fx.cellN y1; replace y2 := fx.cellN y2; replace y3 := fx.cellN y3; replace z0 := fx.cellN z0; replace z1 := fx.cellN z1
    have fwc : Fr (fun _ => False) w wc := (show Fr (fun _ => False) w V from fVH).same fx
    have kr := rverify_any f p a0 a2 a3 a4 a5 c0 c2 c3 c4 c5 wc ((show Fi w f p a0 a2 a3 a4 a5 c0 c2 c3 c4 c5 from iFH).keep fwc)
    have kl : ∀ W, Fr (fun _ => False) wc W → _ := fun W hW => live_any W (tab_fr htH (fwc.same hW))
    have fwcH : Hidden (Fr (fun _ => False) w wc) := fwc
    clear fx fwc kF kP
    generalize verS f p = VR at *
    obtain ⟨vr1, vr2⟩ := VR
    simp only [] at kr ⊢
    go_wp2_with (first
      | (go_at_call 8; refine kr.mono ?_; rintro e w4 ⟨rfl, f4⟩
         have f4H : Hidden (Fr (fun _ => False) wc w4) := f4
         clear f4)
      | (go_at_call 9; refine (kl _ f4H).mono ?_; rintro e w6 ⟨rfl, f6⟩
         have f6H : Hidden (Fr (fun _ => False) wc w6) := (show Fr (fun _ => False) wc w4 from f4H).same f6
         clear f6))
    go_ret
    exact ⟨rfl, (show Fr (fun _ => False) w wc from fwcH).same f6H⟩
set_option maxRecDepth 20000 in
set_option maxHeartbeats 4000000 in
theorem shapes_walk (f : Fu) (p : Fm) (a0 a2 a3 a4 a5 : Option Addr) (c0 c2 c3 c4 c5 : Nat) (at' : Int) (w : World) (h0 : InL w a0 c0 f.sg.ps) (h2 : InL w a2 c2 f.loc) (h3 : IL w a3 c3 f.cd) (h4 : SgL w a4 c4 p.fns) (h5 : InL w a5 c5 p.vars)
    (hb0 : f.sg.ps.length ≤ 17592186044416) (hb2 : f.loc.length ≤ 17592186044416) (hb3 : f.cd.length ≤ 4398046510976) (hb4 : p.fns.length ≤ 4398046510976) (hb5 : p.vars.length ≤ 17592186044416) (hps : ∀ g ∈ p.fns, g.ps.length ≤ 17592186044416) (hok : ∀ i ∈ f.cd, OkIn i) (ht : F.Tab w) :
    Calls Tryz.prog 4 #[.agg (fnV f a0 a2 a3 c0 c2 c3), .agg (fmV p a4 a5 c4 c5), ci at'] w fun e w' => e = .returned (.bool true) ∧ Fr (fun _ => False) w w' := by
  obtain ⟨V, hV⟩ : ∃ W, W = (w.alloc (.cells (fnV f a0 a2 a3 c0 c2 c3) 27 (0, 0))).alloc (.cells (fmV p a4 a5 c4 c5) 30 (0, 0)) := ⟨_, rfl⟩
  have fV : Fr (fun _ => False) w V := by rw [hV]; exact (Fr.alloc _ _ _).same (Fr.alloc _ _ _)
  have r4 : V.heap[w.heap.size]? = some (.cells (fnV f a0 a2 a3 c0 c2 c3) 27 (0, 0)) := by rw [hV]; exact heap_alloc2_old _ _ _
  have r5 : V.heap[w.heap.size + 1]? = some (.cells (fmV p a4 a5 c4 c5) 30 (0, 0)) := by rw [hV]; exact heap_alloc2_new _ _ _
  obtain ⟨y0, y1, y2, y3⟩ := box4 r4
  have z0 : V.cell? ⟨w.heap.size + 1, 0, none⟩ = some (.slice a4 p.fns.length c4) := cell_of_row _ _ 0 _ _ _ r5
  have z1 : V.cell? ⟨w.heap.size + 1, 1, none⟩ = some (.slice a5 p.vars.length c5) := cell_of_row _ _ 1 _ _ _ r5
  have kF : ∀ W, Fr (fun _ => False) V W → _ := fun W hW => fn_lit f a0 a2 a3 c0 c2 c3 V.heap.size W (h0.keep (fV.same hW)) (h2.keep (fV.same hW)) (h3.keep (fV.same hW)) hb0 hb2 hb3 hW.size
  have kP : ∀ W, Fr (fun _ => False) V W → _ := fun W hW => frame_lit p a4 a5 c4 c5 V.heap.size W (h4.keep (fV.same hW)) (h5.keep (fV.same hW)) hb4 hb5 hps hW.size
  have iF : Fi w f p a0 a2 a3 a4 a5 c0 c2 c3 c4 c5 := ⟨h0, h2, h3, h4, h5, hok, hps, ht⟩
  have hVH : Hidden (V = _) := hV
  have fVH : Hidden (Fr (fun _ => False) w V) := fV
  have iFH : Hidden (Fi w f p a0 a2 a3 a4 a5 c0 c2 c3 c4 c5) := iF
  have hokH : Hidden (∀ i ∈ f.cd, OkIn i) := hok
  have hpsH : Hidden (∀ g ∈ p.fns, g.ps.length ≤ 17592186044416) := hps
  have htH : Hidden (F.Tab w) := ht
  clear hV fV r4 r5 iF h0 h2 h3 h4 h5 hb0 hb2 hb3 hb4 hb5 hps hok ht
  go_enter Tryz.func4, Tryz.ntmps4
  go_upto_region 1 with fail
  rw [← (show V = _ from hVH)]
  clear hVH
  go_cut [7, 8, 9] (fun sv nv bv wx => nv = ci (shN (shpS f p at')) ∧ bv = .bool (shB (shpS f p at')) ∧ (∃ so sc, sv = .slice so (shL (shpS f p at')).length sc ∧ InL wx so sc (shL (shpS f p at'))) ∧ Fr (fun _ => False) V wx)
  case first =>
    go_region_held3 (fun w' => w'.cell? ⟨w.heap.size, 0, none⟩ = some (.slice a0 f.sg.ps.length c0) ∧ w'.cell? ⟨w.heap.size, 1, none⟩ = some (ci f.sg.res) ∧ w'.cell? ⟨w.heap.size, 2, none⟩ = some (.slice a2 f.loc.length c2) ∧ w'.cell? ⟨w.heap.size, 3, none⟩ = some (.slice a3 f.cd.length c3) ∧ w'.cell? ⟨w.heap.size + 1, 0, none⟩ = some (.slice a4 p.fns.length c4) ∧ w'.cell? ⟨w.heap.size + 1, 1, none⟩ = some (.slice a5 p.vars.length c5))
      (first | (refine ⟨by with_reducible assumption, by with_reducible assumption, by with_reducible assumption, by with_reducible assumption, by with_reducible assumption, by with_reducible assumption⟩) | go_keep) (first
      | (go_at_call 6; refine (kF _ (by first | exact Fr.refl _ _ | exact Fr.drew _ _)).mono ?_; rintro e w1 ⟨b0, b2, b3, d0, d2, d3, rfl, hFn, f1'⟩
         have f1 : Fr (fun _ => False) V w1 := (by first | exact f1' | exact (Fr.drew _ _).same f1')
         have y0a := f1.cellN y0; have y1a := f1.cellN y1; have y2a := f1.cellN y2; have y3a := f1.cellN y3; have z0a := f1.cellN z0; have z1a := f1.cellN z1
         have hFnH : Hidden (FnO w1 V.heap.size (.agg (fnV f b0 b2 b3 d0 d2 d3)) f) := hFn
         clear hFn f1')
      | (go_at_call 7; refine (kP _ (by first | exact f1 | exact f1.same (Fr.drew _ _))).mono ?_; rintro e w2 ⟨b4, b5, d4, d5, rfl, hP, f2⟩
         have g2 : Fr (fun _ => False) V w2 := f1.same f2
         have y0b := f2.cellN y0a; have y1b := f2.cellN y1a; have y2b := f2.cellN y2a; have y3b := f2.cellN y3a; have z0b := f2.cellN z0a; have z1b := f2.cellN z1a)
      | (go_at_call 10; refine (shape_any f p b0 b2 b3 b4 b5 d0 d2 d3 d4 d5 _ _ _ _ _ rfl rfl rfl rfl rfl at' w2 (fi_lit (FnO.keepN (show FnO w1 V.heap.size _ f from hFnH) f2) hP hokH hpsH (tab_fr htH ((show Fr (fun _ => False) w V from fVH).same g2)))).mono ?_; rintro e w3 ⟨v, rfl, hv, f3⟩
         have y0c := f3.cellN y0b; have y1c := f3.cellN y1b; have y2c := f3.cellN y2b; have y3c := f3.cellN y3b; have z0c := f3.cellN z0b; have z1c := f3.cellN z1b))
    all_goals go_wp2_with fail
    all_goals go_meet
    all_goals
      obtain ⟨so, sc, rfl, hI⟩ := OwI.inl hv
      exact ⟨rfl, rfl, ⟨so, sc, rfl, hI⟩, g2.same f3⟩
  case rest =>
    obtain ⟨rfl, rfl, ⟨so, sc, rfl, hI⟩, fx⟩ := hcut
    replace y0 := fx.cellN y0; replace y1 := fx.cellN y1; replace y2 := fx.cellN y2; replace y3 := fx.cellN y3; replace z0 := fx.cellN z0; replace z1 := fx.cellN z1
    have fwc : Fr (fun _ => False) w wc := (show Fr (fun _ => False) w V from fVH).same fx
    have kr := rshape_any f p a0 a2 a3 a4 a5 c0 c2 c3 c4 c5 at' wc ((show Fi w f p a0 a2 a3 a4 a5 c0 c2 c3 c4 c5 from iFH).keep fwc)
    have kl : ∀ W, Fr (fun _ => False) wc W → _ := fun W hW => live_any W (tab_fr htH (fwc.same hW))
    have ki : ∀ (W : World) (ao : Option Addr) (cap : Nat), Fr (fun _ => False) wc W → InL W ao cap (shL (shpS f p at')) → _ := fun W ao cap hW h => rints_is so ao sc cap (shL (shpS f p at')) (shL (shpS f p at')) W (hI.keep hW) h
    have fwcH : Hidden (Fr (fun _ => False) w wc) := fwc
    generalize shpS f p at' = X at *
    obtain ⟨m, hm⟩ : ∃ m, m = (shL X).length := ⟨_, rfl⟩
    rw [← hm] at kr ⊢
    simp only [← hm, decide_true] at ki
    have hmH : Hidden (m = (shL X).length) := hm
    clear hI fx fwc kF kP hm
    generalize shN X = XN at *
    generalize shB X = XB at *
    go_wp2_with (first
      | (go_at_call 11; refine kr.mono ?_; rintro e w4 ⟨v, rfl, ⟨ro, rc, rfl, hI2⟩, f4⟩
         have hI2H : Hidden (InL w4 ro rc (shL X)) := hI2
         have f4H : Hidden (Fr (fun _ => False) wc w4) := f4
         clear hI2 f4)
      | (go_at_call 12; refine (ki _ ro rc f4H hI2H).mono ?_; rintro e w5 ⟨rfl, f5⟩
         have f5H : Hidden (Fr (fun _ => False) wc w5) := (show Fr (fun _ => False) wc w4 from f4H).same f5
         clear f5)
      | (go_at_call 9; refine (kl _ f5H).mono ?_; rintro e w6 ⟨rfl, f6⟩
         have f6H : Hidden (Fr (fun _ => False) wc w6) := (show Fr (fun _ => False) wc w5 from f5H).same f6
         clear f6))
    go_ret
    exact ⟨rfl, (show Fr (fun _ => False) w wc from fwcH).same f6H⟩
end Go.Proofs.YtnmcehpdiopaiaaGreatDoor.Cd
namespace Go.Proofs.YtnmcehpdiopaiaaGreatDoor.codeVerifies
open Go.RowKit Ty Cd
theorem walk (v : Value) (f : Fu) (u : Value) (p : Fm) (W : World) (hf : FnA W v f) (hp : FmA W u p) (ht : F.Tab W) : Calls Tryz.prog 3 #[v, u] W fun e w' => e = .returned (.bool true) ∧ Fr (fun _ => False) W w' := by
  obtain ⟨a0, a2, a3, c0, c2, c3, rfl, h0, h2, h3, b0, b2, b3, ok⟩ := hf
  obtain ⟨a4, a5, c4, c5, rfl, h4, h5, b4, b5, hps⟩ := hp
  exact verifies_walk f p a0 a2 a3 a4 a5 c0 c2 c3 c4 c5 W h0 h2 h3 h4 h5 b0 b2 b3 b4 b5 hps ok ht
end Go.Proofs.YtnmcehpdiopaiaaGreatDoor.codeVerifies
namespace Go.Proofs.YtnmcehpdiopaiaaGreatDoor.codeShapes
open Go.RowKit Ty Cd
theorem walk (v : Value) (f : Fu) (u : Value) (p : Fm) (a : Int) (W : World) (hf : FnA W v f) (hp : FmA W u p) (_ : (Lit.int .i64 a).wf = true) (ht : F.Tab W) : Calls Tryz.prog 4 #[v, u, .int .i64 a] W fun e w' => e = .returned (.bool true) ∧ Fr (fun _ => False) W w' := by
  obtain ⟨a0, a2, a3, c0, c2, c3, rfl, h0, h2, h3, b0, b2, b3, ok⟩ := hf
  obtain ⟨a4, a5, c4, c5, rfl, h4, h5, b4, b5, hps⟩ := hp
  exact shapes_walk f p a0 a2 a3 a4 a5 c0 c2 c3 c4 c5 a W h0 h2 h3 h4 h5 b0 b2 b3 b4 b5 hps ok ht
end Go.Proofs.YtnmcehpdiopaiaaGreatDoor.codeShapes
