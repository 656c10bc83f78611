/- TreeCopies. -/
import Derived.Test.YtncachlopnpcjaaGreatDoorTrCe
import Derived.Test.YtncachlopnpcjaaGreatDoorTrTAll
import Derived.Test.YtncachlopnpcjaaGreatDoorTrQ4
import Derived.Test.YtncachlopnpcjaaGreatDoorTrG
import Derived.Deep.DeepCutAuto
import Derived.Deep.RegionHeld3
namespace Go.Proofs.YtncachlopnpcjaaGreatDoor.Sl
open Go.RowKit Te
set_option linter.unusedSimpArgs false
set_option linter.unusedVariables false

abbrev FN : Nat → Prop := fun _ => False
abbrev zM : Obj := .cells #[.string ⟨#[]⟩, .slice none 0 0, .slice none 0 0] 25
abbrev bM (m : Mo) (a1 : Option Addr) (c1 : Nat) (a2 : Option Addr) (c2 : Nat) : Obj := .cells #[ct m.name, .slice a1 m.imports.length c1, .slice a2 m.decls.length c2] 25
abbrev s3 (w : World) (g : Nat) (v0 v1 v2 : Value) : World := ((w.setCell ⟨g, 0, none⟩ v0).setCell ⟨g, 1, none⟩ v1).setCell ⟨g, 2, none⟩ v2
theorem al_at (w : World) (o : Obj) (k : Nat) (h : k = w.heap.size) : (w.alloc o).heap[k]? = some o := by rw [h]; exact alloc_new _ _
theorem two1 (w : World) (a b : Obj) : ((w.alloc a).alloc b).heap[w.heap.size]? = some a := (alloc_old _ _ _ (by simp)).trans (alloc_new w a)
theorem two2 (w : World) (a b : Obj) : ((w.alloc a).alloc b).heap[w.heap.size + 1]? = some b := al_at _ _ _ (by simp)
/-- A copy that lies within its own blocks. -/
def Cp (m : Mo) (lo hi : Nat) (w : World) (a1 : Option Addr) (c1 : Nat) (a2 : Option Addr) (c2 : Nat) : Prop := Within lo hi w (fun u => MoI u m (moV m a1 c1 a2 c2) ∧ ShM u lo hi m a1 c1 a2 c2)
/-- Both copies, each in a box of its own. -/
def CpR (V : World) (m : Mo) (p q : Value) (wx : World) : Prop := ∃ g3 g4 a1 c1 a2 c2 b1 d1 b2 d2 la ha lb hb, p = .pointer (some ⟨g3, 0, none⟩) ∧ q = .pointer (some ⟨g4, 0, none⟩) ∧ wx.heap[g3]? = some (bM m a1 c1 a2 c2) ∧ wx.heap[g4]? = some (bM m b1 d1 b2 d2) ∧
  Cp m la ha wx a1 c1 a2 c2 ∧ Cp m lb hb wx b1 d1 b2 d2 ∧ V.heap.size ≤ la ∧ la ≤ ha ∧ ha ≤ lb ∧ hb ≤ wx.heap.size ∧ ha ≤ wx.heap.size ∧ ¬ (la ≤ g4 ∧ g4 < ha) ∧ V.heap.size ≤ g3 ∧ V.heap.size ≤ g4 ∧ Fr FN V wx
theorem cp_gen {V u8 w8 u10 w10 wx : World} {m : Mo} {g3 g4 : Nat} {a1 a2 b1 b2 : Option Addr} {c1 c2 d1 d2 : Nat} (fV : Fr FN V u8) (f8 : Fr FN u8 w8) (f9 : Fr FN w8 u10) (f10 : Fr FN u10 w10) (A8 : Cp m u8.heap.size w8.heap.size w8 a1 c1 a2 c2) (B10 : Cp m u10.heap.size w10.heap.size w10 b1 d1 b2 d2)
    (fx : Fr (fun k => k = g3 ∨ k = g4) w10 wx) (h3 : wx.heap[g3]? = some (bM m a1 c1 a2 c2)) (h4 : wx.heap[g4]? = some (bM m b1 d1 b2 d2)) (v3 : V.heap.size ≤ g3) (v4 : V.heap.size ≤ g4)
    (o3 : g3 < u8.heap.size ∨ (w8.heap.size ≤ g3 ∧ g3 < u10.heap.size) ∨ w10.heap.size ≤ g3) (o4 : g4 < u8.heap.size ∨ (w8.heap.size ≤ g4 ∧ g4 < u10.heap.size) ∨ w10.heap.size ≤ g4) : CpR V m (.pointer (some ⟨g3, 0, none⟩)) (.pointer (some ⟨g4, 0, none⟩)) wx := by
  have s8 := f8.size
  have s9 := f9.size
  have s10 := f10.size
  have sx := fx.size
  have sV := fV.size
  have fV10 : Fr FN V w10 := ((fV.same f8).same f9).same f10
  refine ⟨g3, g4, a1, c1, a2, c2, b1, d1, b2, d2, u8.heap.size, w8.heap.size, u10.heap.size, w10.heap.size, rfl, rfl, h3, h4, ?_, ?_, sV, s8, s9, sx, by omega, by omega, v3, v4, ?_⟩
  · refine Within.later A8 ((Ag.of_fr (f9.same f10) (Nat.le_refl _) (fun _ _ _ f => f)).trans (Ag.of_fr fx (by omega) (fun k h1 h2 e => by omega)))
  · exact Within.later B10 (Ag.of_fr fx (Nat.le_refl _) (fun k h1 h2 e => by omega))
  · exact fV10.over fx (fun k e => by omega)
theorem s3_fr (w : World) (g : Nat) (v0 v1 v2 : Value) : Fr (fun k => k = g) w (s3 w g v0 v1 v2) := fr3' w g v0 v1 v2
theorem cp_s {V u8 w8 u10 w10 X : World} {m : Mo} {g3 g4 : Nat} {a1 a2 b1 b2 : Option Addr} {c1 c2 d1 d2 : Nat} (fV : Fr FN V u8) (f8 : Fr FN u8 w8) (f9 : Fr FN w8 u10) (f10 : Fr FN u10 w10) (A8 : Cp m u8.heap.size w8.heap.size w8 a1 c1 a2 c2) (B10 : Cp m u10.heap.size w10.heap.size w10 b1 d1 b2 d2)
    (fX : Fr FN w10 X) (h3 : X.heap[g3]? = some zM) (h4 : X.heap[g4]? = some zM) (hne : g3 ≠ g4) (v3 : V.heap.size ≤ g3) (v4 : V.heap.size ≤ g4)
    (o3 : g3 < u8.heap.size ∨ (w8.heap.size ≤ g3 ∧ g3 < u10.heap.size) ∨ w10.heap.size ≤ g3) (o4 : g4 < u8.heap.size ∨ (w8.heap.size ≤ g4 ∧ g4 < u10.heap.size) ∨ w10.heap.size ≤ g4) :
    CpR V m (.pointer (some ⟨g3, 0, none⟩)) (.pointer (some ⟨g4, 0, none⟩)) (s3 (s3 X g3 (ct m.name) (.slice a1 m.imports.length c1) (.slice a2 m.decls.length c2)) g4 (ct m.name) (.slice b1 m.imports.length d1) (.slice b2 m.decls.length d2)) := by
  have f1 := s3_fr X g3 (ct m.name) (.slice a1 m.imports.length c1) (.slice a2 m.decls.length c2)
  have f2 := s3_fr (s3 X g3 (ct m.name) (.slice a1 m.imports.length c1) (.slice a2 m.decls.length c2)) g4 (ct m.name) (.slice b1 m.imports.length d1) (.slice b2 m.decls.length d2)
  refine cp_gen fV f8 f9 f10 A8 B10 (((fX.mono fun _ _ f => f.elim).same (f1.mono fun k _ e => Or.inl e)).same (f2.mono fun k _ e => Or.inr e)) ?_ ?_ v3 v4 o3 o4
  · exact f2.heap (set3' h3 _ _ _) (fun e => hne e)
  · exact set3' (f1.heap h4 (fun e => hne e.symm)) _ _ _
theorem cp_l {V u8 w8 u10 w10 : World} {m : Mo} {g4 : Nat} {a1 a2 b1 b2 : Option Addr} {c1 c2 d1 d2 : Nat} (fV : Fr FN V u8) (f8 : Fr FN u8 w8) (f9 : Fr FN w8 u10) (f10 : Fr FN u10 w10) (A8 : Cp m u8.heap.size w8.heap.size w8 a1 c1 a2 c2) (B10 : Cp m u10.heap.size w10.heap.size w10 b1 d1 b2 d2)
    (h4 : w10.heap[g4]? = some zM) (v4 : V.heap.size ≤ g4) (o4 : g4 < u8.heap.size ∨ (w8.heap.size ≤ g4 ∧ g4 < u10.heap.size) ∨ w10.heap.size ≤ g4) :
    CpR V m (.pointer (some ⟨w10.heap.size, 0, none⟩)) (.pointer (some ⟨g4, 0, none⟩)) (s3 (w10.alloc (bM m a1 c1 a2 c2)) g4 (ct m.name) (.slice b1 m.imports.length d1) (.slice b2 m.decls.length d2)) := by
  have hlt := lt_of_heap h4
  have f2 := s3_fr (w10.alloc (bM m a1 c1 a2 c2)) g4 (ct m.name) (.slice b1 m.imports.length d1) (.slice b2 m.decls.length d2)
  have sV := (((fV.same f8).same f9).same f10).size
  refine cp_gen fV f8 f9 f10 A8 B10 ((Fr.alloc _ _ _).same (f2.mono fun k _ e => Or.inr e)) ?_ ?_ sV v4 (Or.inr (Or.inr (Nat.le_refl _))) o4
  · exact f2.heap (alloc_new _ _) (fun e => by omega)
  · exact set3' ((alloc_old _ _ _ hlt).trans h4) _ _ _
theorem cp_a {V u8 w8 u10 w10 : World} {m : Mo} {a1 a2 b1 b2 : Option Addr} {c1 c2 d1 d2 : Nat} (fV : Fr FN V u8) (f8 : Fr FN u8 w8) (f9 : Fr FN w8 u10) (f10 : Fr FN u10 w10) (A8 : Cp m u8.heap.size w8.heap.size w8 a1 c1 a2 c2) (B10 : Cp m u10.heap.size w10.heap.size w10 b1 d1 b2 d2) :
    CpR V m (.pointer (some ⟨w10.heap.size, 0, none⟩)) (.pointer (some ⟨w10.heap.size + 1, 0, none⟩)) ((w10.alloc (bM m a1 c1 a2 c2)).alloc (bM m b1 d1 b2 d2)) := by
  have sV := (((fV.same f8).same f9).same f10).size
  exact cp_gen fV f8 f9 f10 A8 B10 ((Fr.alloc _ _ _).same (Fr.alloc _ _ _)) (two1 _ _ _) (two2 _ _ _) sV (by omega) (Or.inr (Or.inr (Nat.le_refl _))) (Or.inr (Or.inr (by omega)))
theorem cp_b {V u8 w8 u10 w10 : World} {m : Mo} {a1 a2 b1 b2 : Option Addr} {c1 c2 d1 d2 : Nat} (fV : Fr FN V u8) (f8 : Fr FN u8 w8) (f9 : Fr FN w8 u10) (f10 : Fr FN u10 w10) (A8 : Cp m u8.heap.size w8.heap.size w8 a1 c1 a2 c2) (B10 : Cp m u10.heap.size w10.heap.size w10 b1 d1 b2 d2) :
    CpR V m (.pointer (some ⟨w10.heap.size + 1, 0, none⟩)) (.pointer (some ⟨w10.heap.size, 0, none⟩)) ((w10.alloc (bM m b1 d1 b2 d2)).alloc (bM m a1 c1 a2 c2)) := by
  have sV := (((fV.same f8).same f9).same f10).size
  exact cp_gen fV f8 f9 f10 A8 B10 ((Fr.alloc _ _ _).same (Fr.alloc _ _ _)) (two2 _ _ _) (two1 _ _ _) (by omega) sV (Or.inr (Or.inr (by omega))) (Or.inr (Or.inr (Nat.le_refl _)))
end Go.Proofs.YtncachlopnpcjaaGreatDoor.Sl
namespace Go.Proofs.YtncachlopnpcjaaGreatDoor.treeCopies
open Go.RowKit Te Sl
set_option linter.unusedSimpArgs false
set_option linter.unusedVariables false
set_option maxRecDepth 20000 in
set_option maxHeartbeats 16000000 in
theorem walk (v : Value) (m : Mo) (w : World) (hm : MoI w m v) (om : OkM m) (hb : BdM m) (ht : F.Tab w) :
    Calls Tryz.prog 3 #[v] w fun e w' => e = .returned (.bool true) ∧ Fr (fun _ => False) w w' := by
  have hmH : Hidden (MoI w m v) := hm
  have hbH : Hidden (BdM m) := hb
  obtain ⟨ao, cap, aod, capd, rfl, hi, hd⟩ := hm
  obtain ⟨W0, hW0⟩ : ∃ W, W = w.alloc (.cells #[ct m.name, .slice ao m.imports.length cap, .slice aod m.decls.length capd] 25 (0, 0)) := ⟨_, rfl⟩
  have f0 : Fr (fun _ => False) w W0 := by rw [hW0]; exact Fr.alloc _ _ _
  have hA : W0.heap[w.heap.size]? = some (.cells #[ct m.name, .slice ao m.imports.length cap, .slice aod m.decls.length capd] 25 (0, 0)) := by rw [hW0]; exact alloc_new _ _
  have hs0 : Hidden (W0.heap.size = w.heap.size + 1) := by show _ = _; rw [hW0]; simp
  have hW0H : Hidden (W0 = _) := hW0
  have kl := live_any W0 (tab_fr ht f0)
  have kC : ∀ u, Fr FN w u → Calls Tryz.prog 5 #[.agg #[ct m.name, .slice ao m.imports.length cap, .slice aod m.decls.length capd]] u fun e w' => ∃ a1 c1 a2 c2, e = .returned (.agg #[ct m.name, .slice a1 m.imports.length c1, .slice a2 m.decls.length c2]) ∧ Cp m u.heap.size w'.heap.size w' a1 c1 a2 c2 ∧ Fr (fun _ => False) u w' := fun u hu => copy_any m _ u (MoI.keep hmH hu) hbH
  clear hW0 hi hd hb ht
  go_enter Tryz.func3, Tryz.ntmps3
  go_wp2_with fail
  rw [← (show W0 = _ from hW0H)]
  go_at_call 4
  refine kl.mono ?_
  rintro e V ⟨rfl, f1⟩
  have gV : Fr (fun _ => False) w V := f0.same f1
  obtain ⟨e0, e1, e2⟩ := mo3 (f1.heap hA (fun f => f))
  have hAV := f1.heap hA (fun f => f)
  have hwV : w.heap.size < V.heap.size := by have h1 := f1.size; have h2 : W0.heap.size = w.heap.size + 1 := hs0; omega
  have gVH : Hidden (Fr FN w V) := gV
  have hAVH : Hidden (V.heap[w.heap.size]? = some (.cells #[ct m.name, .slice ao m.imports.length cap, .slice aod m.decls.length capd] 25 (0, 0))) := hAV
  clear hA f0 f1 kl gV hAV
  go_upto_region 3 with fail
  go_cut [3, 4] (fun p q wx => CpR V m p q wx)
  case first =>
    have m0 : V.heap.size ≠ w.heap.size := World.new_ne V _ e0
    have m1 : V.heap.size + 1 ≠ w.heap.size := Nat.ne_of_gt (Nat.lt_succ_of_lt (World.block_lt_of_cell? V _ e0))
    go_region_held3 (fun w' => w'.cell? ⟨w.heap.size, 0, none⟩ = some (ct m.name) ∧ w'.cell? ⟨w.heap.size, 1, none⟩ = some (.slice ao m.imports.length cap) ∧ w'.cell? ⟨w.heap.size, 2, none⟩ = some (.slice aod m.decls.length capd)) (first | (refine ⟨by with_reducible assumption, by with_reducible assumption, by with_reducible assumption⟩) | go_keep) (first
      | (go_at_call 5; have hfr : Fr FN w (((V.alloc zM).alloc zM).drew) := (show Fr FN w V from gVH).same (((Fr.alloc _ _ _).same (Fr.alloc _ _ _)).same (Fr.drew _ _)); (with_reducible refine Calls.mono (kC (((V.alloc zM).alloc zM).drew) hfr) ?_); rintro e w8 ⟨a1, c1, a2, c2, rfl, A8, f8⟩; have fV : Fr FN V (((V.alloc zM).alloc zM).drew) := ((Fr.alloc _ _ _).same (Fr.alloc _ _ _)).same (Fr.drew _ _); have g8 := (show Fr FN w V from gVH).same (fV.same f8); have q0 := (fV.same f8).cellN e0; have q1 := (fV.same f8).cellN e1; have q2 := (fV.same f8).cellN e2; have sz8 := (fV.same f8).size; have n0 : w8.heap.size ≠ w.heap.size := World.new_ne w8 _ q0; have n1 : w8.heap.size + 1 ≠ w.heap.size := Nat.ne_of_gt (Nat.lt_succ_of_lt (World.block_lt_of_cell? w8 _ q0)); have h8 : True := trivial; have hz1 : w8.heap[V.heap.size]? = some zM := f8.heap (two1 V zM zM) (fun f => f); have hz2 : w8.heap[V.heap.size + 1]? = some zM := f8.heap (two2 V zM zM) (fun f => f); obtain ⟨za0, za1, za2⟩ := mo3 hz1; have zay0 := frozen_r hz1 0; have zay1 := frozen_r hz1 1; have zay2 := frozen_r hz1 2; have n7 : w8.heap.size ≠ V.heap.size := World.new_ne w8 _ za0; obtain ⟨zb0, zb1, zb2⟩ := mo3 hz2; have zby0 := frozen_r hz2 0; have zby1 := frozen_r hz2 1; have zby2 := frozen_r hz2 2)
      | (go_at_call 5; have hfr : Fr FN w ((V.alloc zM).drew) := (show Fr FN w V from gVH).same ((Fr.alloc _ _ _).same (Fr.drew _ _)); (with_reducible refine Calls.mono (kC ((V.alloc zM).drew) hfr) ?_); rintro e w8 ⟨a1, c1, a2, c2, rfl, A8, f8⟩; have fV : Fr FN V ((V.alloc zM).drew) := (Fr.alloc _ _ _).same (Fr.drew _ _); have g8 := (show Fr FN w V from gVH).same (fV.same f8); have q0 := (fV.same f8).cellN e0; have q1 := (fV.same f8).cellN e1; have q2 := (fV.same f8).cellN e2; have sz8 := (fV.same f8).size; have n0 : w8.heap.size ≠ w.heap.size := World.new_ne w8 _ q0; have n1 : w8.heap.size + 1 ≠ w.heap.size := Nat.ne_of_gt (Nat.lt_succ_of_lt (World.block_lt_of_cell? w8 _ q0)); have h8 : True := trivial; have hz1 : w8.heap[V.heap.size]? = some zM := f8.heap (alloc_new V zM) (fun f => f); obtain ⟨za0, za1, za2⟩ := mo3 hz1; have zay0 := frozen_r hz1 0; have zay1 := frozen_r hz1 1; have zay2 := frozen_r hz1 2; have n7 : w8.heap.size ≠ V.heap.size := World.new_ne w8 _ za0; have zlo : ∀ o : Obj, (w8.alloc o).heap[V.heap.size]? = some zM := fun o => (Fr.alloc FN w8 o).heap hz1 (fun f => f); have zlA := fun o : Obj => cell_of_row (w8.alloc o) _ 0 _ _ _ (zlo o); have zlB := fun o : Obj => cell_of_row (w8.alloc o) _ 1 _ _ _ (zlo o); have zlC := fun o : Obj => cell_of_row (w8.alloc o) _ 2 _ _ _ (zlo o); have zlD := fun o : Obj => frozen_r (zlo o) 0; have zlE := fun o : Obj => frozen_r (zlo o) 1; have zlF := fun o : Obj => frozen_r (zlo o) 2; clear zlo)
      | (go_at_call 5; have hfr : Fr FN w (V.drew) := (show Fr FN w V from gVH).same (Fr.drew _ _); (with_reducible refine Calls.mono (kC (V.drew) hfr) ?_); rintro e w8 ⟨a1, c1, a2, c2, rfl, A8, f8⟩; have fV : Fr FN V (V.drew) := Fr.drew _ _; have g8 := (show Fr FN w V from gVH).same (fV.same f8); have q0 := (fV.same f8).cellN e0; have q1 := (fV.same f8).cellN e1; have q2 := (fV.same f8).cellN e2; have sz8 := (fV.same f8).size; have n0 : w8.heap.size ≠ w.heap.size := World.new_ne w8 _ q0; have n1 : w8.heap.size + 1 ≠ w.heap.size := Nat.ne_of_gt (Nat.lt_succ_of_lt (World.block_lt_of_cell? w8 _ q0)); have h8 : True := trivial)
      | (go_at_call 5; have qq := hz2; have hfr : Fr FN w (w8) := g8.same (Fr.refl _ _); (with_reducible refine Calls.mono (kC (w8) hfr) ?_); rintro e w10 ⟨b1, d1, b2, d2, rfl, B10, f10⟩; have f9 : Fr FN w8 (w8) := Fr.refl _ _; have f910 := f9.same f10; have r0 := f910.cellN q0; have r1 := f910.cellN q1; have r2 := f910.cellN q2; have sz10 := f910.size; have n2 : w10.heap.size ≠ w.heap.size := World.new_ne w10 _ r0; have n3 : w10.heap.size + 1 ≠ w.heap.size := Nat.ne_of_gt (Nat.lt_succ_of_lt (World.block_lt_of_cell? w10 _ r0)); have h10 : True := trivial; have hy1 : w10.heap[V.heap.size]? = some zM := f910.heap hz1 (fun f => f); have hy2 : w10.heap[V.heap.size + 1]? = some zM := f910.heap hz2 (fun f => f); obtain ⟨ya0, ya1, ya2⟩ := mo3 hy1; have yay0 := frozen_r hy1 0; have yay1 := frozen_r hy1 1; have yay2 := frozen_r hy1 2; obtain ⟨yb0, yb1, yb2⟩ := mo3 hy2; have yby0 := frozen_r hy2 0; have yby1 := frozen_r hy2 1; have yby2 := frozen_r hy2 2; have n5 : V.heap.size ≠ V.heap.size + 1 := (by omega); have n6 : V.heap.size + 1 ≠ V.heap.size := (by omega))
      | (go_at_call 5; have qq := hz1; have hfr : Fr FN w ((w8.alloc zM)) := g8.same (Fr.alloc _ _ _); (with_reducible refine Calls.mono (kC ((w8.alloc zM)) hfr) ?_); rintro e w10 ⟨b1, d1, b2, d2, rfl, B10, f10⟩; have f9 : Fr FN w8 ((w8.alloc zM)) := Fr.alloc _ _ _; have f910 := f9.same f10; have r0 := f910.cellN q0; have r1 := f910.cellN q1; have r2 := f910.cellN q2; have sz10 := f910.size; have n2 : w10.heap.size ≠ w.heap.size := World.new_ne w10 _ r0; have n3 : w10.heap.size + 1 ≠ w.heap.size := Nat.ne_of_gt (Nat.lt_succ_of_lt (World.block_lt_of_cell? w10 _ r0)); have h10 : True := trivial; have hy1 : w10.heap[V.heap.size]? = some zM := f910.heap hz1 (fun f => f); have hx1 : w10.heap[w8.heap.size]? = some zM := f10.heap (alloc_new w8 zM) (fun f => f); obtain ⟨ya0, ya1, ya2⟩ := mo3 hy1; have yay0 := frozen_r hy1 0; have yay1 := frozen_r hy1 1; have yay2 := frozen_r hy1 2; obtain ⟨xa0, xa1, xa2⟩ := mo3 hx1; have xay0 := frozen_r hx1 0; have xay1 := frozen_r hx1 1; have xay2 := frozen_r hx1 2; have n5 : V.heap.size ≠ w8.heap.size := (by omega); have n6 : w8.heap.size ≠ V.heap.size := (by omega))
      | (go_at_call 5; have qq := hz1; have hfr : Fr FN w (w8) := g8.same (Fr.refl _ _); (with_reducible refine Calls.mono (kC (w8) hfr) ?_); rintro e w10 ⟨b1, d1, b2, d2, rfl, B10, f10⟩; have f9 : Fr FN w8 (w8) := Fr.refl _ _; have f910 := f9.same f10; have r0 := f910.cellN q0; have r1 := f910.cellN q1; have r2 := f910.cellN q2; have sz10 := f910.size; have n2 : w10.heap.size ≠ w.heap.size := World.new_ne w10 _ r0; have n3 : w10.heap.size + 1 ≠ w.heap.size := Nat.ne_of_gt (Nat.lt_succ_of_lt (World.block_lt_of_cell? w10 _ r0)); have h10 : True := trivial; have hy1 : w10.heap[V.heap.size]? = some zM := f910.heap hz1 (fun f => f); obtain ⟨ya0, ya1, ya2⟩ := mo3 hy1; have yay0 := frozen_r hy1 0; have yay1 := frozen_r hy1 1; have yay2 := frozen_r hy1 2; have yalo : ∀ o : Obj, (w10.alloc o).heap[V.heap.size]? = some zM := fun o => (Fr.alloc FN w10 o).heap hy1 (fun f => f); have yalA := fun o : Obj => cell_of_row (w10.alloc o) _ 0 _ _ _ (yalo o); have yalB := fun o : Obj => cell_of_row (w10.alloc o) _ 1 _ _ _ (yalo o); have yalC := fun o : Obj => cell_of_row (w10.alloc o) _ 2 _ _ _ (yalo o); have yalD := fun o : Obj => frozen_r (yalo o) 0; have yalE := fun o : Obj => frozen_r (yalo o) 1; have yalF := fun o : Obj => frozen_r (yalo o) 2; clear yalo; have n4 : w10.heap.size ≠ V.heap.size := World.new_ne w10 _ ya0)
      | (go_at_call 5; have qq := h8; have hfr : Fr FN w (((w8.alloc zM).alloc zM)) := g8.same ((Fr.alloc _ _ _).same (Fr.alloc _ _ _)); (with_reducible refine Calls.mono (kC (((w8.alloc zM).alloc zM)) hfr) ?_); rintro e w10 ⟨b1, d1, b2, d2, rfl, B10, f10⟩; have f9 : Fr FN w8 (((w8.alloc zM).alloc zM)) := (Fr.alloc _ _ _).same (Fr.alloc _ _ _); have f910 := f9.same f10; have r0 := f910.cellN q0; have r1 := f910.cellN q1; have r2 := f910.cellN q2; have sz10 := f910.size; have n2 : w10.heap.size ≠ w.heap.size := World.new_ne w10 _ r0; have n3 : w10.heap.size + 1 ≠ w.heap.size := Nat.ne_of_gt (Nat.lt_succ_of_lt (World.block_lt_of_cell? w10 _ r0)); have h10 : True := trivial; have hx1 : w10.heap[w8.heap.size]? = some zM := f10.heap (two1 w8 zM zM) (fun f => f); have hx2 : w10.heap[w8.heap.size + 1]? = some zM := f10.heap (two2 w8 zM zM) (fun f => f); obtain ⟨xa0, xa1, xa2⟩ := mo3 hx1; have xay0 := frozen_r hx1 0; have xay1 := frozen_r hx1 1; have xay2 := frozen_r hx1 2; obtain ⟨xb0, xb1, xb2⟩ := mo3 hx2; have xby0 := frozen_r hx2 0; have xby1 := frozen_r hx2 1; have xby2 := frozen_r hx2 2; have n5 : w8.heap.size ≠ w8.heap.size + 1 := (by omega); have n6 : w8.heap.size + 1 ≠ w8.heap.size := (by omega))
      | (go_at_call 5; have qq := h8; have hfr : Fr FN w ((w8.alloc zM)) := g8.same (Fr.alloc _ _ _); (with_reducible refine Calls.mono (kC ((w8.alloc zM)) hfr) ?_); rintro e w10 ⟨b1, d1, b2, d2, rfl, B10, f10⟩; have f9 : Fr FN w8 ((w8.alloc zM)) := Fr.alloc _ _ _; have f910 := f9.same f10; have r0 := f910.cellN q0; have r1 := f910.cellN q1; have r2 := f910.cellN q2; have sz10 := f910.size; have n2 : w10.heap.size ≠ w.heap.size := World.new_ne w10 _ r0; have n3 : w10.heap.size + 1 ≠ w.heap.size := Nat.ne_of_gt (Nat.lt_succ_of_lt (World.block_lt_of_cell? w10 _ r0)); have h10 : True := trivial; have hx1 : w10.heap[w8.heap.size]? = some zM := f10.heap (alloc_new w8 zM) (fun f => f); obtain ⟨xa0, xa1, xa2⟩ := mo3 hx1; have xay0 := frozen_r hx1 0; have xay1 := frozen_r hx1 1; have xay2 := frozen_r hx1 2; have xalo : ∀ o : Obj, (w10.alloc o).heap[w8.heap.size]? = some zM := fun o => (Fr.alloc FN w10 o).heap hx1 (fun f => f); have xalA := fun o : Obj => cell_of_row (w10.alloc o) _ 0 _ _ _ (xalo o); have xalB := fun o : Obj => cell_of_row (w10.alloc o) _ 1 _ _ _ (xalo o); have xalC := fun o : Obj => cell_of_row (w10.alloc o) _ 2 _ _ _ (xalo o); have xalD := fun o : Obj => frozen_r (xalo o) 0; have xalE := fun o : Obj => frozen_r (xalo o) 1; have xalF := fun o : Obj => frozen_r (xalo o) 2; clear xalo; have n4 : w10.heap.size ≠ w8.heap.size := World.new_ne w10 _ xa0)
      | (go_at_call 5; have qq := h8; have hfr : Fr FN w (w8) := g8.same (Fr.refl _ _); (with_reducible refine Calls.mono (kC (w8) hfr) ?_); rintro e w10 ⟨b1, d1, b2, d2, rfl, B10, f10⟩; have f9 : Fr FN w8 (w8) := Fr.refl _ _; have f910 := f9.same f10; have r0 := f910.cellN q0; have r1 := f910.cellN q1; have r2 := f910.cellN q2; have sz10 := f910.size; have n2 : w10.heap.size ≠ w.heap.size := World.new_ne w10 _ r0; have n3 : w10.heap.size + 1 ≠ w.heap.size := Nat.ne_of_gt (Nat.lt_succ_of_lt (World.block_lt_of_cell? w10 _ r0)); have h10 : True := trivial)
      )
    all_goals go_wp2_with fail
    all_goals go_meet
    all_goals first
      | (with_reducible exact cp_a fV f8 f9 f10 A8 B10)
      | (with_reducible exact cp_b fV f8 f9 f10 A8 B10)
      | ((with_reducible refine cp_l fV f8 f9 f10 A8 B10 hy1 ?_ ?_); (focus omega); exact Or.inl (by simp))
      | ((with_reducible refine cp_l fV f8 f9 f10 A8 B10 hx1 ?_ ?_); (focus omega); exact Or.inr (Or.inl ⟨by omega, by simp⟩))
      | ((with_reducible refine cp_s (X := w10.alloc zM) fV f8 f9 f10 A8 B10 (Fr.alloc _ _ _) ((alloc_old _ _ _ (lt_of_heap hy1)).trans hy1) (alloc_new _ _) ?_ ?_ ?_ ?_ ?_); (focus exact Ne.symm n4); (focus omega); (focus omega); (focus exact Or.inl (by simp)); exact Or.inr (Or.inr (Nat.le_refl _)))
      | ((with_reducible refine cp_s (X := w10.alloc zM) fV f8 f9 f10 A8 B10 (Fr.alloc _ _ _) ((alloc_old _ _ _ (lt_of_heap hx1)).trans hx1) (alloc_new _ _) ?_ ?_ ?_ ?_ ?_); (focus exact Ne.symm n4); (focus omega); (focus omega); (focus exact Or.inr (Or.inl ⟨by omega, by simp⟩)); exact Or.inr (Or.inr (Nat.le_refl _)))
      | ((with_reducible refine cp_s (X := w10) fV f8 f9 f10 A8 B10 (Fr.refl _ _) hy1 hy2 ?_ ?_ ?_ ?_ ?_); (focus omega); (focus omega); (focus omega); (focus exact Or.inl (by simp; omega)); exact Or.inl (by simp))
      | ((with_reducible refine cp_s (X := w10) fV f8 f9 f10 A8 B10 (Fr.refl _ _) hy2 hy1 ?_ ?_ ?_ ?_ ?_); (focus omega); (focus omega); (focus omega); (focus exact Or.inl (by simp)); exact Or.inl (by simp; omega))
      | ((with_reducible refine cp_s (X := w10) fV f8 f9 f10 A8 B10 (Fr.refl _ _) hx1 hx2 ?_ ?_ ?_ ?_ ?_); (focus omega); (focus omega); (focus omega); (focus exact Or.inr (Or.inl ⟨by omega, by simp; omega⟩)); exact Or.inr (Or.inl ⟨by omega, by simp⟩))
      | ((with_reducible refine cp_s (X := w10) fV f8 f9 f10 A8 B10 (Fr.refl _ _) hx2 hx1 ?_ ?_ ?_ ?_ ?_); (focus omega); (focus omega); (focus omega); (focus exact Or.inr (Or.inl ⟨by omega, by simp⟩)); exact Or.inr (Or.inl ⟨by omega, by simp; omega⟩))
      | ((with_reducible refine cp_s (X := w10) fV f8 f9 f10 A8 B10 (Fr.refl _ _) hy1 hx1 ?_ ?_ ?_ ?_ ?_); (focus omega); (focus omega); (focus omega); (focus exact Or.inl (by simp)); exact Or.inr (Or.inl ⟨by omega, by simp⟩))
      | ((with_reducible refine cp_s (X := w10) fV f8 f9 f10 A8 B10 (Fr.refl _ _) hx1 hy1 ?_ ?_ ?_ ?_ ?_); (focus omega); (focus omega); (focus omega); (focus exact Or.inr (Or.inl ⟨by omega, by simp⟩)); exact Or.inl (by simp))
  case rest =>
  obtain ⟨g3, g4, a1, c1, a2, c2, b1, d1, b2, d2, la, ha, lb, hb, rfl, rfl, h3, h4, A, B, o1, o2, o3, o4, o5, o6, o7, o8, fx⟩ := hcut
  have gx : Fr FN w wc := (show Fr FN w V from gVH).same fx
  obtain ⟨x0, x1, x2⟩ := mo3 h3
  obtain ⟨y0, y1, y2⟩ := mo3 h4
  obtain ⟨z0, z1, z2⟩ := mo3 (fx.heap hAVH (fun f => f))
  have AH : Hidden (Cp m la ha wc a1 c1 a2 c2) := A
  have BH : Hidden (Cp m lb hb wc b1 d1 b2 d2) := B
  have gxH : Hidden (Fr FN w wc) := gx
  have ordH : Hidden (V.heap.size ≤ la ∧ la ≤ ha ∧ ha ≤ lb ∧ hb ≤ wc.heap.size ∧ ha ≤ wc.heap.size ∧ ¬ (la ≤ g4 ∧ g4 < ha) ∧ w.heap.size < V.heap.size) := ⟨o1, o2, o3, o4, o5, o6, hwV⟩
  have k1 := same_any m m (moV m a1 c1 a2 c2) (moV m ao cap aod capd) wc A.now.1 (MoI.keep hmH gx)
  rw [decide_eq_true rfl] at k1
  clear A B h3 h4 e0 e1 e2 kC o1 o2 o3 o4 o5 o6 o7 o8 fx gx hwV
  go_wp2_with fail
  refine k1.mono ?_
  rintro e w5 ⟨rfl, f5⟩
  have g5 : Hidden (Fr FN wc w5) := f5
  have A5 : Hidden (Cp m la ha w5 a1 c1 a2 c2) := Within.later AH (Ag.of_fr f5 (show _ ∧ _ from ordH).2.2.2.2.1 (fun _ _ _ f => f))
  have B5 : Hidden (Cp m lb hb w5 b1 d1 b2 d2) := Within.later BH (Ag.of_fr f5 (show _ ∧ _ from ordH).2.2.2.1 (fun _ _ _ f => f))
  have k2 := same_any m m (moV m a1 c1 a2 c2) (moV m b1 d1 b2 d2) w5 (show Cp _ _ _ _ _ _ _ _ from A5).now.1 (show Cp _ _ _ _ _ _ _ _ from B5).now.1
  rw [decide_eq_true rfl] at k2
  replace x0 := f5.cellN x0
  replace x1 := f5.cellN x1
  replace x2 := f5.cellN x2
  replace y0 := f5.cellN y0
  replace y1 := f5.cellN y1
  replace y2 := f5.cellN y2
  replace z0 := f5.cellN z0
  replace z1 := f5.cellN z1
  replace z2 := f5.cellN z2
  clear k1 f5
  go_wp2_with fail
  refine k2.mono ?_
  rintro e w6 ⟨rfl, f6⟩
  have g6 : Hidden (Fr FN wc w6) := Fr.same g5 f6
  have sz6 := (show Fr FN wc w6 from g6).size
  have A6 : Cp m la ha w6 a1 c1 a2 c2 := Within.later A5 (Ag.of_fr f6 (by have := (show _ ∧ _ from ordH).2.2.2.2.1; have := (show Fr FN wc w5 from g5).size; omega) (fun _ _ _ f => f))
  have B6 : Hidden (Cp m lb hb w6 b1 d1 b2 d2) := Within.later B5 (Ag.of_fr f6 (by have := (show _ ∧ _ from ordH).2.2.2.1; have := (show Fr FN wc w5 from g5).size; omega) (fun _ _ _ f => f))
  have k3 := spoil_any m la ha w6 a1 c1 a2 c2 (by have := (show _ ∧ _ from ordH).2.2.2.2.1; omega) A6.now.2
  replace x0 := f6.cellN x0
  replace x1 := f6.cellN x1
  replace x2 := f6.cellN x2
  replace y0 := f6.cellN y0
  replace y1 := f6.cellN y1
  replace y2 := f6.cellN y2
  replace z0 := f6.cellN z0
  replace z1 := f6.cellN z1
  replace z2 := f6.cellN z2
  clear k2 f6 A6
  go_wp2_with fail
  refine k3.mono ?_
  rintro e w7 ⟨rfl, s7⟩
  have oo : V.heap.size ≤ la ∧ la ≤ ha ∧ ha ≤ lb ∧ hb ≤ wc.heap.size ∧ ha ≤ wc.heap.size ∧ ¬ (la ≤ g4 ∧ g4 < ha) ∧ w.heap.size < V.heap.size := ordH
  have g7 : Fr FN w w7 := (Fr.same gxH g6).over s7.fr (fun k hk => by omega)
  have g7H : Hidden (Fr FN w w7) := g7
  have B7 : Cp m lb hb w7 b1 d1 b2 d2 := Within.later B6 (Ag.of_fr s7.fr (by omega) (fun k h1 h2 e => by omega))
  replace y0 := s7.fr.cell y0 (fun e => oo.2.2.2.2.2.1 e)
  replace y1 := s7.fr.cell y1 (fun e => oo.2.2.2.2.2.1 e)
  replace y2 := s7.fr.cell y2 (fun e => oo.2.2.2.2.2.1 e)
  replace z0 := s7.fr.cell z0 (fun e => by have h1 : la ≤ w.heap.size := e.1; omega)
  replace z1 := s7.fr.cell z1 (fun e => by have h1 : la ≤ w.heap.size := e.1; omega)
  replace z2 := s7.fr.cell z2 (fun e => by have h1 : la ≤ w.heap.size := e.1; omega)
  have k4 := same_any m m (moV m b1 d1 b2 d2) (moV m ao cap aod capd) w7 B7.now.1 (MoI.keep hmH g7)
  rw [decide_eq_true rfl] at k4
  clear k3 s7 oo g7 B7 x0 x1 x2
  go_wp2_with fail
  refine k4.mono ?_
  rintro e w8 ⟨rfl, f8⟩
  have g8 : Hidden (Fr FN w w8) := Fr.same g7H f8
  clear k4 f8
  go_wp2
  go_ret
  exact ⟨rfl, g8⟩
end Go.Proofs.YtncachlopnpcjaaGreatDoor.treeCopies
