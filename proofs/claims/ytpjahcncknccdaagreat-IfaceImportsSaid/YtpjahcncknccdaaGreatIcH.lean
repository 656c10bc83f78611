/- iface.Extract: the walk. -/
import Derived.Test.YtpjahcncknccdaaGreatIcG
namespace Go.Proofs.YtpjahcncknccdaaGreat.Fo.Ic
open Go.RowKit Te
set_option linter.unusedSimpArgs false
set_option linter.unusedVariables false

abbrev zIf : Obj := .cells #[.string ⟨#[]⟩, .slice none 0 0] 24 (0, 0)
theorem size_iface : (Tryz.prog.info? 24).map (·.size) = some 2 := by kernel_rfl
theorem zero_fc (w : World) : Ty.FcI w ⟨[], []⟩ (.agg #[.string ⟨#[]⟩, .slice none 0 0]) := ⟨none, 0, rfl, by simp, by unfold maxLen; omega, fun _ => rfl, Or.inl rfl⟩
set_option maxRecDepth 20000 in
set_option maxHeartbeats 4000000 in
theorem extract_any (m : Mo) (v : Value) (l : List Ty.Fc) (lo : Option Addr) (lc : Nat) (w : World) (om : OkM m) (hm : MoI w m v) (h1 : l.length ≤ lc) (h2 : lc ≤ maxLen) (h3 : l = [] ∨ ∃ b off, lo = some ⟨b, off, none⟩ ∧ ∀ (i : Nat) (x : Ty.Fc), l[i]? = some x → LayF w b (off + i * 2) x) (hokl : ∀ f ∈ l, Ty.OkN f.name ∧ ∀ i ∈ f.items, Ty.OkI i) :
    Calls Tryz.prog 13 #[v, .slice lo l.length lc] w fun e w' => ∃ fv f, e = .returned (.tuple #[fv, ci (exP m l).1, ci (exP m l).2]) ∧ Ty.FcI w' f fv ∧ IsF m l f ∧ Fr FN w w' := by
  have hmH : Hidden (MoI w m v) := hm
  have omH : Hidden (OkM m) := om
  obtain ⟨ao, cap, ad, capd, rfl, hi, hd⟩ := hm
  have m0 : cap ≤ 9223372036854775807 := by have := hi.2.1; unfold maxLen at this; omega
  have m1 : capd ≤ 9223372036854775807 := by have := hd.2.1; unfold maxLen at this; omega
  obtain ⟨V, hV⟩ : ∃ V, V = (w.alloc (.cells #[ct m.name, .slice ao m.imports.length cap, .slice ad m.decls.length capd] 39)).alloc zIf := ⟨_, rfl⟩
  have fV : Fr FN w V := by rw [hV]; exact (Fr.alloc _ _ _).same (Fr.alloc _ _ _)
  have hA : V.heap[w.heap.size]? = some (.cells #[ct m.name, .slice ao m.imports.length cap, .slice ad m.decls.length capd] 39 (0, 0)) := by rw [hV]; exact (alloc_old _ _ _ (by simp)).trans (alloc_new _ _)
  have hB : V.heap[w.heap.size + 1]? = some zIf := by rw [hV]; exact alloc_at _ _ _ (by simp)
  have hVH : Hidden (V = _) := hV
  have fVH : Hidden (Fr FN w V) := fV
  have hsV : V.heap.size = w.heap.size + 2 := by rw [hV]; simp
  have box3 : ∀ u, Fr FN V u → u.cell? ⟨w.heap.size, 0, none⟩ = some (ct m.name) ∧ u.cell? ⟨w.heap.size, 1, none⟩ = some (.slice ao m.imports.length cap) ∧ u.cell? ⟨w.heap.size, 2, none⟩ = some (.slice ad m.decls.length capd) := fun u hu => by
    have h := hu.heap hA (fun f => f)
    exact ⟨cell_of_row _ _ 0 _ _ _ h, cell_of_row _ _ 1 _ _ _ h, cell_of_row _ _ 2 _ _ _ h⟩
  have boxZ : ∀ u, Fr FN V u → u.heap[w.heap.size + 1]? = some zIf := fun u hu => hu.heap hB (fun f => f)
  have box3H : Hidden (∀ u, Fr FN V u → u.cell? ⟨w.heap.size, 0, none⟩ = some (ct m.name) ∧ u.cell? ⟨w.heap.size, 1, none⟩ = some (.slice ao m.imports.length cap) ∧ u.cell? ⟨w.heap.size, 2, none⟩ = some (.slice ad m.decls.length capd)) := box3
  have boxZH : Hidden (∀ u, Fr FN V u → u.heap[w.heap.size + 1]? = some zIf) := boxZ
  have kR : ∀ u, Fr FN V u → Calls Tryz.prog 31 #[.agg #[ct m.name, .slice ao m.imports.length cap, .slice ad m.decls.length capd]] u fun e w' => e = .returned (ci (errM rnS cnS m)) ∧ Fr FN V w' := fun u hu => (right_any m _ u om (MoI.keep hmH (fV.same hu))).mono fun _ _ ⟨q1, q2⟩ => ⟨q1, hu.same q2⟩
  have hex : exP m l = if errM rnS cnS m ≠ 0 then (0, errM rnS cnS m) else match impS l m.imports with
    | none => (0, 31)
    | some g => ((decS (farS g) m.decls).2.2.1, (decS (farS g) m.decls).2.2.2) := rfl
  obtain ⟨E, hE⟩ : ∃ E, errM rnS cnS m = E := ⟨_, rfl⟩
  rw [hE] at kR hex
  by_cases hE0 : E = 0
  · subst hE0
    rw [if_neg (by simp)] at hex
    obtain ⟨hs1, hs2, hs3⟩ := errM_small hE
    have kI : ∀ u, Fr FN V u → Calls Tryz.prog 32 #[.slice ao m.imports.length cap, .slice lo l.length lc] u fun e w' => ∃ v, e = .returned (.tuple #[v, .bool (impS l m.imports).isSome]) ∧ (∀ g, impS l m.imports = some g → Rw.Row (RF u) 24 2 w' u.heap.size v g) ∧ Fr FN u w' := fun u hu => by
      have ff := fV.same hu
      refine imported_any m.imports ao cap l lo lc u (hi.keep ff) h1 h2 ?_ hokl hs1 _ rfl
      rcases h3 with h0 | ⟨b, off, e, h0⟩
      · exact Or.inl h0
      · exact Or.inr ⟨b, off, e, fun i y hy => by
          obtain ⟨ap, cp, q1, q2, q3⟩ := h0 i y hy
          exact ⟨ap, cp, q1.keep ff, ff.cellN q2, ff.cellN q3⟩⟩
    obtain ⟨I, hI⟩ : ∃ I, impS l m.imports = I := ⟨_, rfl⟩
    rw [hI] at kI hex
    cases I with
    | none =>
      have hexH : Hidden (exP m l = (0, 31)) := hex
      obtain ⟨a0, a1, a2⟩ := box3 V (Fr.refl _ _)
      rw [hex]
      clear hE hI hex hs1 hs2 hs3 h3 hokl hi hd box3 boxZ hA hB hV fV
      rw [(show V = _ from hVH)] at a0 a1 a2
      go_enter Tryz.func13, Tryz.ntmps13
      go_wp2_with (first
        | (go_at_call 31; rw [← (show V = _ from hVH)]; refine Calls.mono (kR V (Fr.refl _ _)) ?_; rintro e w1 ⟨rfl, f1⟩; obtain ⟨b0, b1, b2⟩ := (show ∀ u, Fr FN V u → _ from box3H) w1 f1)
        | (go_at_call 32; have f1' := f1; refine Calls.mono (kI w1 f1') ?_; rintro e w2 ⟨v2, rfl, hr2, f2⟩; have f12 : Fr FN V w2 := f1'.same f2; have zz := (show ∀ u, Fr FN V u → u.heap[w.heap.size + 1]? = some zIf from boxZH) w2 f12; obtain ⟨z0, z1⟩ := Ty.box2 zz; have zf0 := Ty.frozen_row zz 0; have zf1 := Ty.frozen_row zz 1))
      refine post_cell3 rfl rfl _ _ rfl (run_loadVar_row _ _ _ _ _ _ _ (two_put ((show ∀ u, Fr FN V u → u.heap[w.heap.size + 1]? = some zIf from boxZH) w2 f12) _ _) Tryz.underlying24 rfl size_iface) ⟨_, ⟨[], []⟩, rfl, zero_fc _, Or.inl ⟨by rw [(show exP m l = _ from hexH)]; exact (by decide), rfl⟩, ((show Fr FN w V from fVH).same f12).over (two_at w2 _ _ _) (fun k e => by subst e; omega)⟩
    | some g =>
      have hexH : Hidden (exP m l = ((decS (farS g) m.decls).2.2.1, (decS (farS g) m.decls).2.2.2)) := hex
      have hIH : Hidden (impS l m.imports = some g) := hI
      obtain ⟨hg1, hg2⟩ := impS_spec hI
      have hgi : allI g ≤ 1024 := by have := allI_le g (fun f hf => rightF_len (hg2 f hf).2); omega
      have hfl : (farS g).length ≤ 1024 := Nat.le_trans (farS_len g) hgi
      have hfb : ∀ c ∈ farS g, U64 c.b := farS_b g (fun f hf i hi => (hokl f (hg2 f hf).1).2 i hi)
      have kF : ∀ (W w2 : World) (gv : Value), Rw.Row (RF W) 24 2 w2 W.heap.size gv g → Fr FN W w2 → Fr FN V w2 → ∀ u, Fr FN w2 u → Calls Tryz.prog 34 #[gv] u fun e w' => ∃ v, e = .returned v ∧ CoW w' u.heap.size v (farS g) ∧ Fr FN V w' := fun W w2 gv hr hW hf u hu => by
        obtain ⟨ga, gc, rfl, q1, q2, q3⟩ := row_fcl (hr.keep hu (fun _ _ f => f)) (hW.same hu)
        exact (far_any g ga gc u q1 q2 q3 (by omega)).mono fun _ _ ⟨x, q4, q5, q6⟩ => ⟨x, q4, q5, (hf.same hu).same q6⟩
      have kD : ∀ (u : World) (fv : Value) (B2 : Nat), Fr FN V u → CoW u B2 fv (farS g) → Calls Tryz.prog 33 #[.agg #[ct m.name, .slice ao m.imports.length cap, .slice ad m.decls.length capd], fv] u fun e w' => ∃ v1 v2, e = .returned (.tuple #[v1, v2, ci (decS (farS g) m.decls).2.2.1, ci (decS (farS g) m.decls).2.2.2]) ∧ CoW w' u.heap.size v1 (decS (farS g) m.decls).1 ∧ Fr FN V w' := fun u fv B2 hu hc => (decls_any (farS g) hfb m _ fv B2 u om (MoI.keep hmH (fV.same hu)) hc (by omega)).mono fun _ _ ⟨x, y, q1, q2, _, q3⟩ => ⟨x, y, q1, q2, hu.same q3⟩
      have kS : (decS (farS g) m.decls).2.2.2 = 0 → ∀ (u : World) (bo : Option Addr) (bc : Nat), Fr FN V u → CoL u bo bc (decS (farS g) m.decls).1 → Calls Tryz.prog 35 #[.slice ad m.decls.length capd, .slice bo (decS (farS g) m.decls).1.length bc] u fun e w' => ∃ v its, e = .returned v ∧ its.Perm (itemsS m.decls (decS (farS g) m.decls).1) ∧ its.Pairwise (fun x y => ¬ y.name < x.name) ∧ (∃ ao cap, v = .slice ao its.length cap ∧ ∀ w'', Fr (fun k => k < u.heap.size) w' w'' → Ty.ItL w'' ao cap its) ∧ Fr FN V w' := fun h0 u bo bc hu hc => (shown_any m.decls ad capd _ bo bc u (hd.keep (fV.same hu)) hc (by rw [decS_cnt h0]; exact Nat.le_refl _) hs2 (fun d hd => errD_params (hs3 d hd))).mono fun _ _ ⟨x, its, q1, q2, q3, q4, q5⟩ => ⟨x, its, q1, q2, q3, q4, hu.same q5⟩
      have hEH : Hidden (errM rnS cnS m = 0) := hE
      obtain ⟨a0, a1, a2⟩ := box3 V (Fr.refl _ _)
      rw [hex]
      have hisH : ∀ f, IsF m l f = (((exP m l).2 ≠ 0 ∧ f = ⟨[], []⟩) ∨ ((exP m l).2 = 0 ∧ f.name = m.name ∧ errM rnS cnS m = 0 ∧ ∃ g, impS l m.imports = some g ∧ (decS (farS g) m.decls).2.2.2 = 0 ∧ f.items.Perm (itemsS m.decls (decS (farS g) m.decls).1) ∧ f.items.Pairwise (fun x y => ¬ y.name < x.name))) := fun f => rfl
      obtain ⟨cs, hcs⟩ : ∃ cs, (decS (farS g) m.decls).1 = cs := ⟨_, rfl⟩
      obtain ⟨P, hP⟩ : ∃ P, (decS (farS g) m.decls).2.2.1 = P := ⟨_, rfl⟩
      obtain ⟨Er, hEr⟩ : ∃ Er, (decS (farS g) m.decls).2.2.2 = Er := ⟨_, rfl⟩
      have hcsH : Hidden ((decS (farS g) m.decls).1 = cs) := hcs
      have hErH : Hidden ((decS (farS g) m.decls).2.2.2 = Er) := hEr
      rw [hcs, hP, hEr] at kD
      rw [hcs, hEr] at kS
      rw [hP, hEr]
      rw [hP, hEr] at hexH
      have hP0 : Er = 0 → P = 0 := fun e => by rw [← hP]; exact decGo_zero _ _ _ _ _ _ (hEr.trans e)
      clear hE hI hex hs1 hs2 hs3 h3 hokl hi hd box3 boxZ hA hB hV fV hg1 hg2 hgi hfl hfb hisH hcs hP hEr
      rw [(show V = _ from hVH)] at a0 a1 a2
      by_cases hE2 : Er = 0
      · subst hE2
        have hP1 := hP0 rfl
        subst hP1
        clear hP0
        replace kS := kS rfl
        go_enter Tryz.func13, Tryz.ntmps13
        go_wp2_with (first
          | (go_at_call 31; rw [← (show V = _ from hVH)]; refine Calls.mono (kR V (Fr.refl _ _)) ?_; rintro e w1 ⟨rfl, f1⟩; obtain ⟨b0, b1, b2⟩ := (show ∀ u, Fr FN V u → _ from box3H) w1 f1)
          | (go_at_call 32; have f1' := f1; refine Calls.mono (kI w1 f1') ?_; rintro e w2 ⟨v2, rfl, hr2, f2⟩; have f12 : Fr FN V w2 := f1'.same f2; have hr2' := hr2 g rfl; obtain ⟨ga, gc, rfl, _⟩ := hr2'.slice; have kF2 := kF w1 w2 _ hr2' f2 f12; clear hr2 hr2'; obtain ⟨d0, d1, d2⟩ := (show ∀ u, Fr FN V u → _ from box3H) w2 f12))
        go_region_held3 (fun w' => w'.cell? ⟨w.heap.size, 0, none⟩ = some (ct m.name) ∧ w'.cell? ⟨w.heap.size, 1, none⟩ = some (.slice ao m.imports.length cap) ∧ w'.cell? ⟨w.heap.size, 2, none⟩ = some (.slice ad m.decls.length capd)) (first | (refine ⟨by with_reducible assumption, by with_reducible assumption, by with_reducible assumption⟩) | go_keep) (first
          | (go_at_call 34; (with_reducible refine Calls.mono (kF2 w2.drew (Fr.drew _ _)) ?_); rintro e w3 ⟨v3, rfl, c3, f3⟩; obtain ⟨fo, fc, rfl, _⟩ := c3.slice; obtain ⟨e0, e1, e2⟩ := (show ∀ u, Fr FN V u → _ from box3H) w3 f3)
          | (go_at_call 33; (with_reducible refine Calls.mono (kD w3 _ _ f3 c3) ?_); rintro e w4 ⟨v4, v5, rfl, c4, f4⟩; obtain ⟨a4, k4, rfl, hc4⟩ := c4.col; obtain ⟨g0, g1, g2⟩ := (show ∀ u, Fr FN V u → _ from box3H) w4 f4; have zz := (show ∀ u, Fr FN V u → u.heap[w.heap.size + 1]? = some zIf from boxZH) w4 f4; obtain ⟨z0, z1⟩ := Ty.box2 zz; have zf0 := Ty.frozen_row zz 0; have zf1 := Ty.frozen_row zz 1))
        clear z0 z1 zf0 zf1
        go_wp2_with fail
        have f4d : Fr FN V w4.drew := f4.same (Fr.drew _ _)
        have hc4d : CoL w4.drew a4 k4 cs := hc4.keep (Fr.drew _ _)
        go_region_held3 (fun w' => w'.cell? ⟨w.heap.size, 0, none⟩ = some (ct m.name) ∧ w'.cell? ⟨w.heap.size, 1, none⟩ = some (.slice ao m.imports.length cap) ∧ w'.cell? ⟨w.heap.size, 2, none⟩ = some (.slice ad m.decls.length capd)) (first | (refine ⟨by with_reducible assumption, by with_reducible assumption, by with_reducible assumption⟩) | go_keep) (first
          | (go_at_call 35; (with_reducible refine Calls.mono (kS w4.drew a4 k4 f4d hc4d) ?_); rintro e w5 ⟨v6, its, rfl, hp5, hs5, ⟨ia, ic, rfl, hit⟩, f5⟩; obtain ⟨h0, h1, h2⟩ := (show ∀ u, Fr FN V u → _ from box3H) w5 f5; have zz := (show ∀ u, Fr FN V u → u.heap[w.heap.size + 1]? = some zIf from boxZH) w5 f5; obtain ⟨z0, z1⟩ := Ty.box2 zz; have zf0 := Ty.frozen_row zz 0; have zf1 := Ty.frozen_row zz 1))
        go_wp2_with fail
        have hs4 := f4.size
        refine post_cell3 rfl rfl _ _ rfl (run_loadVar_row _ _ _ _ _ _ _ (two_put ((show ∀ u, Fr FN V u → u.heap[w.heap.size + 1]? = some zIf from boxZH) w5 f5) _ _) Tryz.underlying24 rfl size_iface) ⟨_, ⟨m.name, its⟩, rfl, ⟨ia, ic, rfl, hit _ ((two_at w5 _ _ _).mono fun k _ e => by subst e; show _ < w4.heap.size; omega)⟩, Or.inr ⟨by rw [(show exP m l = _ from hexH)], rfl, hEH, g, hIH, hErH, ?_, hs5⟩, ((show Fr FN w V from fVH).same f5).over (two_at w5 _ _ _) (fun k e => by subst e; omega)⟩
        rw [(show _ = cs from hcsH)]
        exact hp5
      · have b1 : (Er != 0) = true := by simpa using hE2
        have hE2H : Hidden (Er ≠ 0) := hE2
        clear kS hE2
        go_enter Tryz.func13, Tryz.ntmps13
        go_wp2_with (first
          | (go_at_call 31; rw [← (show V = _ from hVH)]; refine Calls.mono (kR V (Fr.refl _ _)) ?_; rintro e w1 ⟨rfl, f1⟩; obtain ⟨b0, b1, b2⟩ := (show ∀ u, Fr FN V u → _ from box3H) w1 f1)
          | (go_at_call 32; have f1' := f1; refine Calls.mono (kI w1 f1') ?_; rintro e w2 ⟨v2, rfl, hr2, f2⟩; have f12 : Fr FN V w2 := f1'.same f2; have hr2' := hr2 g rfl; obtain ⟨ga, gc, rfl, _⟩ := hr2'.slice; have kF2 := kF w1 w2 _ hr2' f2 f12; clear hr2 hr2'; obtain ⟨d0, d1, d2⟩ := (show ∀ u, Fr FN V u → _ from box3H) w2 f12))
        go_region_held3 (fun w' => w'.cell? ⟨w.heap.size, 0, none⟩ = some (ct m.name) ∧ w'.cell? ⟨w.heap.size, 1, none⟩ = some (.slice ao m.imports.length cap) ∧ w'.cell? ⟨w.heap.size, 2, none⟩ = some (.slice ad m.decls.length capd)) (first | (refine ⟨by with_reducible assumption, by with_reducible assumption, by with_reducible assumption⟩) | go_keep) (first
          | (go_at_call 34; (with_reducible refine Calls.mono (kF2 w2.drew (Fr.drew _ _)) ?_); rintro e w3 ⟨v3, rfl, c3, f3⟩; obtain ⟨fo, fc, rfl, _⟩ := c3.slice; obtain ⟨e0, e1, e2⟩ := (show ∀ u, Fr FN V u → _ from box3H) w3 f3)
          | (go_at_call 33; (with_reducible refine Calls.mono (kD w3 _ _ f3 c3) ?_); rintro e w4 ⟨v4, v5, rfl, c4, f4⟩; obtain ⟨a4, k4, rfl, hc4⟩ := c4.col; obtain ⟨g0, g1, g2⟩ := (show ∀ u, Fr FN V u → _ from box3H) w4 f4; have zz := (show ∀ u, Fr FN V u → u.heap[w.heap.size + 1]? = some zIf from boxZH) w4 f4; obtain ⟨z0, z1⟩ := Ty.box2 zz; have zf0 := Ty.frozen_row zz 0; have zf1 := Ty.frozen_row zz 1))
        go_wp2_with fail
        refine post_cell3 rfl rfl _ _ rfl (run_loadVar_row _ _ _ _ _ _ _ (two_put ((show ∀ u, Fr FN V u → u.heap[w.heap.size + 1]? = some zIf from boxZH) w4 f4) _ _) Tryz.underlying24 rfl size_iface) ⟨_, ⟨[], []⟩, rfl, zero_fc _, Or.inl ⟨by rw [(show exP m l = _ from hexH)]; exact hE2H, rfl⟩, ((show Fr FN w V from fVH).same f4).over (two_at w4 _ _ _) (fun k e => by subst e; omega)⟩
  · have hexH : Hidden (exP m l = (0, E)) := by rw [if_pos (by simpa using hE0)] at hex; exact hex
    have b1 : (E != 0) = true := by simpa using hE0
    obtain ⟨a0, a1, a2⟩ := box3 V (Fr.refl _ _)
    rw [(show exP m l = _ from hexH)]
    have hE0H : Hidden (E ≠ 0) := hE0
    clear hE hex h3 hokl hi hd box3 boxZ hA hB hV fV hE0
    rw [(show V = _ from hVH)] at a0 a1 a2
    go_enter Tryz.func13, Tryz.ntmps13
    go_wp2_with (first | (go_at_call 31; rw [← (show V = _ from hVH)]; refine Calls.mono (kR V (Fr.refl _ _)) ?_; rintro e w1 ⟨rfl, f1⟩; obtain ⟨b0, b1, b2⟩ := (show ∀ u, Fr FN V u → _ from box3H) w1 f1; have zz := (show ∀ u, Fr FN V u → u.heap[w.heap.size + 1]? = some zIf from boxZH) w1 f1; obtain ⟨z0, z1⟩ := Ty.box2 zz; have zf0 := Ty.frozen_row zz 0; have zf1 := Ty.frozen_row zz 1))
    refine post_cell3 rfl rfl _ _ rfl (run_loadVar_row _ _ _ _ _ _ _ (two_put ((show ∀ u, Fr FN V u → u.heap[w.heap.size + 1]? = some zIf from boxZH) w1 f1) _ _) Tryz.underlying24 rfl size_iface) ⟨_, ⟨[], []⟩, rfl, zero_fc _, Or.inl ⟨by rw [(show exP m l = _ from hexH)]; exact hE0H, rfl⟩, ((show Fr FN w V from fVH).same f1).over (two_at w1 _ _ _) (fun k e => by subst e; omega)⟩
end Go.Proofs.YtpjahcncknccdaaGreat.Fo.Ic
