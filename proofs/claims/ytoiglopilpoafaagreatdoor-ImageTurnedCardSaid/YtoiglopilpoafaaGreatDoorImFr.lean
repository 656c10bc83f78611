/- image.Frame. -/
import Derived.Test.YtoiglopilpoafaaGreatDoorPk32
import Derived.Test.YtoiglopilpoafaaGreatDoorPk31
import Derived.Test.YtoiglopilpoafaaGreatDoorPk30
import Derived.Deep.DeepCutAuto
namespace Go.Proofs.YtoiglopilpoafaaGreatDoor.Im
open Go.RowKit Ty Cd
set_option linter.unusedSimpArgs false
set_option linter.unusedVariables false
set_option maxRecDepth 20000

theorem int_val : (3 : TypeId) ≠ 59 := by decide
theorem info_int : (Tryz.prog.info? 3).map (fun i => (i.zero, i.size, i.bytes)) = some (some (.int .i64 0), 1, 8) := by kernel_rfl
set_option maxHeartbeats 8000000 in
theorem frameI_any (i : Ig) (va fa : Option Addr) (vc fc nv nf : Nat) (hnv : i.vars.length = nv) (hnf : i.fns.length = nf) (w : World) (h : IgA w i va fa vc fc) (hv : nv ≤ 2048) (hf : nf ≤ 2048) (hps : ∀ f ∈ i.fns, f.sg.ps.length ≤ 17592186044416) :
    Calls Tryz.prog 17 #[.agg #[.slice va nv vc, .slice fa nf fc, ci i.mn]] w fun e w' => ∃ v, e = .returned v ∧ FmO w' w.heap.size v (frI i) ∧ Fr (fun _ => False) w w' := by
  obtain ⟨vars, fns, mn⟩ := i
  simp only [] at hnv hnf hps ⊢
  obtain ⟨V, hV⟩ : ∃ V, V = ((w.alloc (.cells #[.slice va nv vc, .slice fa nf fc, ci mn] 28 (0, 0))).alloc (.cells #[.slice none 0 0, .slice none 0 0] 64 (0, 0))).alloc (.cells #[.slice none 0 0, .slice none 0 0] 64 (0, 0)) := ⟨_, rfl⟩
  have fV : Fr (fun _ => False) w V := by rw [hV]; exact ((Fr.alloc _ _ _).same (Fr.alloc _ _ _)).same (Fr.alloc _ _ _)
  have xi : V.heap[w.heap.size]? = some (.cells #[.slice va nv vc, .slice fa nf fc, ci mn] 28 (0, 0)) := by rw [hV]; exact (Fr.alloc (fun _ => False) _ _).heap (heap_alloc2_old _ _ _) (fun f => f)
  have xr : V.heap[w.heap.size + 1]? = some (.cells #[.slice none 0 0, .slice none 0 0] 64 (0, 0)) := by rw [hV]; exact (Fr.alloc (fun _ => False) _ _).heap (heap_alloc2_new _ _ _) (fun f => f)
  have xp : V.heap[w.heap.size + 1 + 1]? = some (.cells #[.slice none 0 0, .slice none 0 0] 64 (0, 0)) := by
    rw [hV]
    have := alloc_new ((w.alloc (.cells #[.slice va nv vc, .slice fa nf fc, ci mn] 28 (0, 0))).alloc (.cells #[.slice none 0 0, .slice none 0 0] 64 (0, 0))) (.cells #[.slice none 0 0, .slice none 0 0] 64 (0, 0))
    simpa using this
  have hsz : V.heap.size = w.heap.size + 3 := by rw [hV]; simp
  have hcv : nv ≤ vc := by rw [← hnv]; exact h.1.1
  have hcvm : vc ≤ 9223372036854775807 := by have := h.1.2.1; simpa [maxLen] using this
  have hcf : nf ≤ fc := by rw [← hnf]; exact h.2.1
  have hcfm : fc ≤ 9223372036854775807 := by have := h.2.2.1; simpa [maxLen] using this
  obtain ⟨gl, hgl⟩ : ∃ gl, gl = fns.map (·.sg) := ⟨_, rfl⟩
  obtain ⟨tl, htl⟩ : ∃ tl, tl = vars.map (·.1) := ⟨_, rfl⟩
  have hfr : frI ⟨vars, fns, mn⟩ = ⟨gl, tl⟩ := by rw [hgl, htl]; rfl
  clear hfr
  obtain ⟨c0, c1, c2⟩ := box3 xi
  have hVLH : Hidden (VL w va vc vars) := h.1
  have hFLH : Hidden (FL w fa fc fns) := h.2
  have hnvH : Hidden (vars.length = nv) := hnv
  have hnfH : Hidden (fns.length = nf) := hnf
  have hpsH : Hidden (∀ f ∈ fns, f.sg.ps.length ≤ 17592186044416) := hps
  have hglH : Hidden (gl = fns.map (·.sg)) := hgl
  have htlH : Hidden (tl = vars.map (·.1)) := htl
  have xiH : Hidden (V.heap[w.heap.size]? = some (.cells #[.slice va nv vc, .slice fa nf fc, ci mn] 28 (0, 0))) := xi
  have xrH : Hidden (V.heap[w.heap.size + 1]? = some (.cells #[.slice none 0 0, .slice none 0 0] 64 (0, 0))) := xr
  have xpH : Hidden (V.heap[w.heap.size + 1 + 1]? = some (.cells #[.slice none 0 0, .slice none 0 0] 64 (0, 0))) := xp
  have fVH : Hidden (Fr (fun _ => False) w V) := fV
  have hVH : Hidden (V = _) := hV
  have hfbH : Hidden (nf ≤ 2048) := hf
  have hszH : Hidden (V.heap.size = w.heap.size + 3) := hsz
  clear hV fV xi xr xp hsz h hnv hnf hps hgl htl hf
  go_enter Tryz.func17, Tryz.ntmps17
  go_upto_region 2 with fail
  rw [← (show V = _ from hVH)]
  clear hVH
  generalize hG : w.heap.size = G at *
  have hGH : Hidden (w.heap.size = G) := hG
  clear hG
  go_wp2_with fail
  go_loopg [11] nf (fun k iv wr => ∃ (j : Nat) (v4 : Value), iv = .int .i64 (j : Int) ∧ j ≤ nf ∧ k = nf - j ∧ wr.heap[G + 1 + 1]? = some (.cells #[v4, .slice none 0 0] 64 (0, 0)) ∧ FsR wr V.heap.size v4 (gl.take j) ∧ Fr (fun k => k = G + 1 + 1) V wr)
  case atStart => exact ⟨0, .slice none 0 0, rfl, by omega, rfl, xpH, ⟨[], rfl, own_nil _ _ _ _, fun i s x h => by simp at h⟩, Fr.refl _ _⟩
  case round =>
    obtain ⟨j, v4, rfl, hj, hk, hbx, hfs, hfr⟩ := hrel
    have hkH : Hidden (gk = nf - j) := hk
    have hzV : V.heap.size = G + 3 := hszH
    clear hk
    by_cases hjl : j < nf
    · obtain ⟨x, hx⟩ : ∃ x, fns[j]? = some x := ⟨_, List.getElem?_eq_getElem (by have : fns.length = nf := hnfH; omega)⟩
      obtain ⟨b, off, rfl⟩ := fl_some (show FL w fa fc fns from hFLH) hx
      obtain ⟨xx, hP, q0, q1, q2, q3⟩ := fl_at (show FL w (some ⟨b, off, none⟩) fc fns from hFLH) hx
      have hwlt : w.heap.size = G := hGH
      have hw0 : Fr (fun _ => False) w wr := (show Fr (fun _ => False) w V from fVH).over hfr (fun k e => by omega)
      replace q0 := hw0.cellN q0
      replace q1 := hw0.cellN q1
      replace q2 := hw0.cellN q2
      replace q3 := hw0.cellN q3
      obtain ⟨⟨a0, p0⟩, ⟨a2, p2⟩, ⟨a3, p3⟩⟩ := xx
      obtain ⟨hI, _, _⟩ := hP
      simp only [] at q0 q1 q2 q3 hI
      have hxm := List.mem_of_getElem? hx
      have htk : Hidden (gl.take (j + 1) = gl.take j ++ [x.sg]) := by
        show _ = _
        have : gl[j]? = some x.sg := by rw [show gl = fns.map (·.sg) from hglH, List.getElem?_map, hx]; rfl
        rw [List.take_add_one, this]; rfl
      obtain ⟨m, hm⟩ : ∃ m, m = x.sg.ps.length := ⟨_, rfl⟩
      obtain ⟨xr, hxr⟩ : ∃ z, z = x.sg.res := ⟨_, rfl⟩
      obtain ⟨ps, hps0⟩ : ∃ z, z = x.sg.ps := ⟨_, rfl⟩
      have hsg : x.sg = ⟨ps, xr⟩ := by rw [hxr, hps0]
      have hpl : ps.length ≤ 17592186044416 := by rw [hps0]; exact (show ∀ f ∈ fns, _ from hpsH) x hxm
      rw [← hps0] at hI
      rw [← hm] at q0
      rw [← hxr] at q1
      have hmp : ps.length = m := by rw [hps0, hm]
      rw [hsg] at htk
      generalize x.loc.length = m2 at *
      generalize x.cd.length = m3 at *
      clear hx hxm hm hxr hps0 hsg
      obtain ⟨Y, hY⟩ : ∃ Y, Y = wr.alloc (.cells #[.slice a0 m p0, ci xr, .slice a2 m2 p2, .slice a3 m3 p3] 46 (0, 0)) := ⟨_, rfl⟩
      have fY : Fr (fun _ => False) wr Y := by rw [hY]; exact Fr.alloc _ _ _
      have xY : Y.heap[wr.heap.size]? = some (.cells #[.slice a0 m p0, ci xr, .slice a2 m2 p2, .slice a3 m3 p3] 46 (0, 0)) := by rw [hY]; exact alloc_new _ _
      obtain ⟨e0, e1, _, _⟩ := box4 xY
      have hbxY := fY.heap hbx (fun f => f)
      obtain ⟨k0, k1⟩ := Cd.box2 hbxY
      have y0 := frozen_of_row hbxY 0
      have hfrY : Hidden (Fr (fun k => k = G + 1 + 1) V Y) := hfr.same (fY.mono (fun _ _ f => f.elim))
      have hfsY : Hidden (FsR Y V.heap.size v4 (gl.take j)) := hfs.keepN fY
      have kr := fun W (f : Fr (fun _ => False) Y W) => clone_i a0 m p0 ps hmp W ((hI.keep (hw0.same fY)).keep f) (by omega)
      have hYH : Hidden (Y = _) := hY
      have hbxH : Hidden (Y.heap[G + 1 + 1]? = some (.cells #[v4, .slice none 0 0] 64 (0, 0))) := hbxY
      obtain ⟨a7, c7, hv7, hS7⟩ := FsR.sgl hfsY
      have hjlen : (gl.take j).length = j := by rw [List.length_take, show gl = fns.map (·.sg) from hglH, List.length_map]; have : fns.length = nf := hnfH; omega
      rw [hjlen] at hv7
      subst hv7
      have hc7 : j ≤ c7 := by rw [← hjlen]; exact hS7.1
      have hjlenH : Hidden ((gl.take j).length = j) := hjlen
      have hszr : Hidden (V.heap.size ≤ Y.heap.size) := (show Fr (fun k => k = G + 1 + 1) V Y from hfrY).size
      have hmpH : Hidden (ps.length = m) := hmp
      have htkH : Hidden (gl.take (j + 1) = gl.take j ++ [⟨ps, xr⟩]) := htk
      obtain ⟨xs, hx1, hx2, hx3⟩ := (show FsR Y V.heap.size (.slice a7 j c7) (gl.take j) from hfsY)
      obtain ⟨F, hF⟩ : ∃ F, F = (((gl.take j).zip xs).flatMap sgC) := ⟨_, rfl⟩
      rw [show (gl.take j).length = j from hjlenH, ← hF] at hx2
      have hFH : Hidden (F = _) := hF
      have hx1H : Hidden (xs.length = (gl.take j).length) := hx1
      have hx2H : Hidden (Y.ownsRow V.heap.size 43 2 (.slice a7 j c7) j F) := hx2
      have hx3H : Hidden (∀ (i : Nat) (s : Sg) (x : Option Addr × Nat), (gl.take j)[i]? = some s → xs[i]? = some x → OwI Y V.heap.size (.slice x.1 s.ps.length x.2) s.ps) := hx3
      have hjn2 : (j : Int) < (nf : Int) := by omega
      have hvzH : Hidden (V.heap.size = G + 3) := hzV
      generalize hE : wr.heap.size = E at *
      have hEH : Hidden (wr.heap.size = E) := hE
      obtain ⟨w0, w1, w2⟩ := box3 (hfr.heap (show V.heap[G]? = _ from xiH) (by omega))
      clear hF hx1 hx2 hx3 hjlen hS7 hY fY xY hbxY hw0 hwlt hI hpl hmp htk hfs hbx hE hzV
      clear hfr
      go_upto_region 5 with fail
      rw [← (show Y = _ from hYH), show wr.heap.size = E from hEH]
      clear q0 q1 q2 q3 w0 w1 w2 hYH hEH
      go_wp2_with fail
      go_region_law (first
        | (have tk := hpaH
           refine step_raw rfl _ _ 62 43 (.agg #[.slice none 0 0, .int .i64 0]) 2 32 Tryz.underlying62 info_sg rfl (by decide) rfl V.heap.size (.slice a7 j c7) j F ⟨wa.heap.size, 0, none⟩ 1 1 [.slice pa m pc, ci xr] rfl ?_ rfl rfl ?_ ?_ ?_ ?_ ?_ ?_
           · exact own_keep (show Y.ownsRow V.heap.size _ 2 _ j F from hx2H) ((show Fr (fun _ => False) Y wa from gaH).same (Fr.alloc (fun _ => False) wa _)) (fun _ _ f => f)
           · intro i u hu
             rw [Addr.add_lit, Nat.zero_add]
             refine (cell_of_row _ _ _ _ _ _ (alloc_new wa _)).trans ?_
             rcases i with _ | _ | i
             · simp at hu; subst hu; rfl
             · simp at hu; subst hu; rfl
             · simp at hu
           · intro u hu
             simp at hu
             rcases hu with rfl | rfl <;> rfl
           · have h2 : nf ≤ 2048 := hfbH
             simp [maxLen]; omega
           · have h2 : nf ≤ 2048 := hfbH
             omega
           · have h1 : V.heap.size ≤ Y.heap.size := hszr
             have h2 := (show Fr (fun _ => False) Y wa from gaH).size
             simp; omega
           intro v7 w7 r7 f7 o7
           obtain ⟨a8, c8, hv8, _⟩ := own_slice r7 (by decide)
           subst hv8
           have nb : ¬ (Value.slice a7 j c7).ownBlock = some (G + 1 + 1) := fun e => by have h1 := (own_block (show Y.ownsRow V.heap.size _ 2 _ j F from hx2H) (G + 1 + 1) e).1; have h2 : V.heap.size = G + 3 := hvzH; omega
           have hbx7 := f7.heap (((show Fr (fun _ => False) Y wa from gaH).same (Fr.alloc (fun _ => False) wa _)).heap (show Y.heap[G + 1 + 1]? = _ from hbxH) (fun f => f)) nb
           obtain ⟨l0, l1⟩ := Cd.box2 hbx7
           have z0 := frozen_of_row hbx7 0
           have hbx7H : Hidden (w7.heap[G + 1 + 1]? = some (.cells #[.slice a7 j c7, .slice none 0 0] 64 (0, 0))) := hbx7
           have r7H : Hidden (w7.ownsRow V.heap.size 43 2 (.slice a8 (j + 1) c8) (j + 1) (F ++ [.slice pa m pc, ci xr])) := r7
           have f7H : Hidden (Fr (fun k => (Value.slice a7 j c7).ownBlock = some k) (wa.alloc (.cells #[.slice pa m pc, ci xr] 43 (0, 0))) w7) := f7
           clear r7 f7 o7 hbx7 nb)
        | (go_simp
           go_at_call 33
           refine (kr _ (by first | exact Fr.refl _ _ | exact Fr.drew _ _)).mono ?_
           rintro e wa ⟨vp, rfl, hp, fa⟩
           obtain ⟨pa, pc, hvp, _⟩ := hp.inl
           rw [show ps.length = m from hmpH] at hvp
           subst hvp
           have ga : Fr (fun _ => False) Y wa := (by first | exact fa | exact (Fr.drew _ _).same fa)
           have hpaH : Hidden (OwI wa V.heap.size (.slice pa m pc) ps) := own_lower hp (Nat.le_trans (show V.heap.size ≤ Y.heap.size from hszr) (by first | exact Nat.le_refl _ | exact Fr.size (Fr.drew (fun _ => False) Y)))
           have gaH : Hidden (Fr (fun _ => False) Y wa) := ga
           have ka0 := ga.cellN k0
           have ka1 := (Fr.alloc (fun _ => False) wa (.cells #[.slice pa m pc, ci xr] 43 (0, 0))).cellN ka0
           have ta0 := ga.cellN e1
           have ta1 := (Fr.alloc (fun _ => False) wa (.cells #[.slice pa m pc, ci xr] 43 (0, 0))).cellN ta0
           clear hp fa ga
           dsimp only))
      all_goals
        go_wp2_with fail
        go_roundg (nf - (j + 1))
        case measure => have : gk = nf - j := hkH; omega
        case rel =>
          have gX : Fr (fun _ => False) Y (wa.alloc (.cells #[.slice pa m pc, ci xr] 43 (0, 0))) := (show Fr (fun _ => False) Y wa from gaH).same (Fr.alloc _ _ _)
          have hpX : OwI (wa.alloc (.cells #[.slice pa m pc, ci xr] 43 (0, 0))) V.heap.size (.slice pa ps.length pc) ps := by
            have hm2 : ps.length = m := hmpH
            rw [hm2]
            exact OwI.keepN (show OwI wa V.heap.size (.slice pa m pc) ps from hpaH) (Fr.alloc (fun _ => False) wa (.cells #[.slice pa m pc, ci xr] 43 (0, 0)))
          have hs7 : FsR w7 V.heap.size (.slice a8 (j + 1) c8) (gl.take j ++ [⟨ps, xr⟩]) := by
            refine FsR.snoc (w := wa.alloc (.cells #[.slice pa m pc, ci xr] 43 (0, 0))) (v := .slice a7 j c7) (x := (pa, pc)) (xs := xs) hx1H ?_ (fun i s y hs hy => ((show ∀ (i : Nat) (s : Sg) (x : Option Addr × Nat), _ → _ → _ from hx3H) i s y hs hy).keepN gX) hpX f7H ?_
            · rw [show (gl.take j).length = j from hjlenH, ← (show F = _ from hFH)]
              exact own_keep (show Y.ownsRow V.heap.size _ 2 _ j F from hx2H) gX (fun _ _ f => f)
            · rw [show (gl.take j).length = j from hjlenH, ← (show F = _ from hFH)]
              have := (show w7.ownsRow V.heap.size _ 2 _ (j + 1) _ from r7H)
              rw [← (show ps.length = m from hmpH)] at this
              exact this
          have hltB : G + 1 + 1 < V.heap.size := by have h2 : V.heap.size = G + 3 := hvzH; omega
          refine ⟨j + 1, .slice a8 (j + 1) c8, by go_num, by omega, rfl, ?_, ?_, ?_⟩
          · exact heap_setCell_same w7 (G + 1 + 1) 0 _ _ _ hbx7H
          · rw [show gl.take (j + 1) = _ from htkH]
            exact hs7.keepB (Fr.setCell w7 ⟨G + 1 + 1, 0, none⟩ _) hltB
          · have hszr' : V.heap.size ≤ Y.heap.size := hszr
            exact (((show Fr (fun k => k = G + 1 + 1) V Y from hfrY).same (gX.mono (fun _ _ f => f.elim))).trans (show Fr (fun k => (Value.slice a7 j c7).ownBlock = some k) _ w7 from f7H) (fun k hk e => by have h1 := (own_block (show Y.ownsRow V.heap.size _ 2 _ j F from hx2H) k e).1; omega)).same (Fr.setCell w7 ⟨G + 1 + 1, 0, none⟩ _)
    · obtain rfl : j = nf := by omega
      have hjn2 : decide ((j : Int) < (j : Int)) = false := by simp
      obtain ⟨X, rfl⟩ : ∃ X, X = wr := ⟨wr, rfl⟩
      obtain ⟨t0, t1, t2⟩ := box3 (hfr.heap (show V.heap[G]? = _ from xiH) (by omega))
      have htj : gl.take j = gl := List.take_of_length_le (by rw [show gl = fns.map (·.sg) from hglH, List.length_map]; have : fns.length = j := hnfH; omega)
      rw [htj] at hfs
      have hfsX : Hidden (FsR X V.heap.size v4 gl) := hfs
      have hfrX : Hidden (Fr (fun k => k = G + 1 + 1) V X) := hfr
      have hbxX : Hidden (X.heap[G + 1 + 1]? = some (.cells #[v4, .slice none 0 0] 64 (0, 0))) := hbx
      have hw0 : Hidden (Fr (fun _ => False) w X) := (show Fr (fun _ => False) w V from fVH).over hfr (fun k e => by have : w.heap.size = G := hGH; omega)
      have hszX : Hidden (G + 3 ≤ X.heap.size) := by have := hfr.size; show _ ≤ _; omega
      have hszV : Hidden (V.heap.size = G + 3) := hzV
      clear hfs hfr hbx htj hjl hj hkH hzV
      go_wp2_with fail
      clear t0 t1 t2 hjn2
      go_loopg [32] nv (fun k iv wr => ∃ (i : Nat) (v5 : Value), iv = .int .i64 (i : Int) ∧ i ≤ nv ∧ k = nv - i ∧ wr.heap[G + 1 + 1]? = some (.cells #[v4, v5] 64 (0, 0)) ∧ Row RI 3 1 wr X.heap.size v5 (tl.take i) ∧ Fr (fun k => k = G + 1 + 1) X wr)
      case atStart => exact ⟨0, .slice none 0 0, rfl, by omega, rfl, hbxX, Row.nil _ _ _ _ _, Fr.refl _ _⟩
      case round =>
        obtain ⟨i, v5, rfl, hi, hk2, hbx, hrow, hfr⟩ := hrel
        have hk2H : Hidden (gk = nv - i) := hk2
        have hfrH : Hidden (Fr (fun k => k = G + 1 + 1) X wr) := hfr
        have hzX : G + 3 ≤ X.heap.size := hszX
        have htl : tl.length = nv := by rw [show tl = vars.map (·.1) from htlH, List.length_map]; exact hnvH
        clear hk2
        by_cases hil : i < nv
        · obtain ⟨⟨t, bt⟩, hx⟩ : ∃ x, vars[i]? = some x := ⟨_, List.getElem?_eq_getElem (by have : vars.length = nv := hnvH; omega)⟩
          obtain ⟨bl, off, rfl, cells⟩ := (show VL w va vc vars from hVLH).2.2.2.resolve_left (by rintro rfl; simp at hx)
          have hw1 : Fr (fun _ => False) w wr := (show Fr (fun _ => False) w X from hw0).over hfr (fun k e => by have : w.heap.size = G := hGH; omega)
          have q0 := hw1.cellN (cells i _ hx).1
          have q1 := hw1.cellN (cells i _ hx).2
          simp only [] at q0 q1
          have htk : Hidden (tl.take (i + 1) = tl.take i ++ [t]) := by
            show _ = _
            have : tl[i]? = some t := by rw [show tl = vars.map (·.1) from htlH, List.getElem?_map, hx]; rfl
            rw [List.take_add_one, this]; rfl
          obtain ⟨Y, hY⟩ : ∃ Y, Y = wr.alloc (.cells #[ci t, .int .u64 bt] 59 (0, 0)) := ⟨_, rfl⟩
          have fY : Fr (fun _ => False) wr Y := by rw [hY]; exact Fr.alloc _ _ _
          have xY : Y.heap[wr.heap.size]? = some (.cells #[ci t, .int .u64 bt] 59 (0, 0)) := by rw [hY]; exact alloc_new _ _
          have hbxY := fY.heap hbx (fun f => f)
          obtain ⟨e0, e1⟩ := Cd.box2 xY
          obtain ⟨a5, c5, hv5, h5a, h5b⟩ := hrow.shape
          have hll : (tl.take i).length = i := by rw [List.length_take]; omega
          rw [hll] at hv5 h5a
          subst hv5
          obtain ⟨k0, k1⟩ := Cd.box2 hbxY
          have hrowY : Hidden (Row RI 3 1 Y X.heap.size (.slice a5 i c5) (tl.take i)) := hrow.keep fY (fun _ f => f.elim)
          have hownH : Hidden (∀ k, (Value.slice a5 i c5).ownBlock = some k → X.heap.size ≤ k ∧ k < Y.heap.size) := Row.own hrowY
          have hfrY : Hidden (Fr (fun k => k = G + 1 + 1) X Y) := hfr.same (fY.mono (fun _ _ f => f.elim))
          have hbxH : Hidden (Y.heap[G + 1 + 1]? = some (.cells #[v4, .slice a5 i c5] 64 (0, 0))) := hbxY
          have hllH : Hidden ((tl.take i).length = i) := hll
          have hin : (i : Int) < (nv : Int) := by omega
          have hivH : Hidden (i ≤ nv ∧ nv ≤ 2048) := ⟨hi, hv⟩
          have hszr : Hidden (X.heap.size ≤ Y.heap.size) := (show Fr (fun k => k = G + 1 + 1) X Y from hfrY).size
          have hzXH : Hidden (G + 3 ≤ X.heap.size) := hzX
          have h5c : c5 ≤ 9223372036854775807 := by simpa [maxLen] using h5b
          obtain ⟨s0, s1, s2⟩ := box3 (hfr.heap ((show Fr (fun k => k = G + 1 + 1) V X from hfrX).heap (show V.heap[G]? = _ from xiH) (by omega)) (by omega))
          have hYH : Hidden (Y = _) := hY
          generalize hE : wr.heap.size = E at *
          have hEH : Hidden (wr.heap.size = E) := hE
          clear hx cells hw1 hbx hrow hfr hll htl hil h5b hzX hY fY xY hbxY hE
          clear hfrH
          go_upto_region 10 with fail
          rw [← (show Y = _ from hYH), show wr.heap.size = E from hEH]
          clear q0 q1 s0 s1 s2 hYH hEH
          go_wp2_with (
             at_builtin
             refine wpList_row (R := RI) rfl _ _ 41 3 (.int .i64 0) 1 8 Tryz.underlying41 info_int rfl (by decide) rfl X.heap.size (.slice a5 i c5) (tl.take i) t [ci t] ⟨Y.heap.size, 0, none⟩ 1 rfl ?c0 rfl rfl ?c1 ?c2 ?c3 ?c4 (by decide) ?c5 ?_
             case c0 => exact (show Row RI 3 1 Y X.heap.size _ (tl.take i) from hrowY).keep (Fr.alloc (fun _ => False) _ _) (fun _ f => f.elim)
             case c1 =>
               intro i u hu
               rw [Addr.add_lit, Nat.zero_add]
               refine (cell_of_row _ _ _ _ _ _ (alloc_new Y _)).trans ?_
               rcases i with _ | i
               · simp at hu; subst hu; rfl
               · simp at hu
             case c2 => intro u hu; simp at hu; subst hu; rfl
             case c3 => exact fun w4 _ => rfl
             case c4 => have h2 : (tl.take i).length = i := hllH; have h3 : i ≤ nv ∧ nv ≤ 2048 := hivH; omega
             case c5 => have h1 : X.heap.size ≤ Y.heap.size := hszr; simp; omega
             intro v3 w3 r3 f3
             obtain ⟨a6, c6, hv6, _, _⟩ := r3.shape
             rw [show (tl.take i ++ [t]).length = i + 1 by rw [List.length_append, show (tl.take i).length = i from hllH]; rfl] at hv6
             subst hv6
             have r3H : Hidden (Row RI 3 1 w3 X.heap.size (.slice a6 (i + 1) c6) (tl.take i ++ [t])) := r3
             have g3 : Fr (fun k => (Value.slice a5 i c5).ownBlock = some k) Y w3 := (Fr.alloc _ _ _).same f3
             have hbx3 := g3.heap (show Y.heap[G + 1 + 1]? = _ from hbxH) (fun e => by have h1 := (show ∀ k, _ → X.heap.size ≤ k ∧ k < Y.heap.size from hownH) (G + 1 + 1) e; have h2 : G + 3 ≤ X.heap.size := hzXH; omega)
             have z1 := frozen_of_row hbx3 1
             obtain ⟨l0, l1⟩ := Cd.box2 hbx3
             have hbx3H : Hidden (w3.heap[G + 1 + 1]? = some (.cells #[v4, .slice a5 i c5] 64 (0, 0))) := hbx3
             have f3H : Hidden (Fr (fun k => (Value.slice a5 i c5).ownBlock = some k) Y w3) := g3
             clear r3 f3 g3 hbx3)
          go_roundg (nv - (i + 1))
          case measure => have : gk = nv - i := hk2H; omega
          case rel =>
            have hzX : G + 3 ≤ X.heap.size := hzXH
            refine ⟨i + 1, .slice a6 (i + 1) c6, by go_num, by omega, rfl, heap_setCell_same w3 (G + 1 + 1) 1 _ _ _ hbx3H, ?_, ?_⟩
            · rw [show tl.take (i + 1) = _ from htk]
              exact (show Row RI 3 1 w3 X.heap.size (.slice a6 (i + 1) c6) (tl.take i ++ [t]) from r3H).keep (Fr.setCell w3 ⟨G + 1 + 1, 1, none⟩ _) (fun k e => by have e : k = G + 1 + 1 := e; omega)
            · exact ((show Fr (fun k => k = G + 1 + 1) X Y from hfrY).trans (show Fr (fun k => (Value.slice a5 i c5).ownBlock = some k) Y w3 from f3H) (fun k hk e => by have h1 := (show ∀ k, _ → X.heap.size ≤ k ∧ k < Y.heap.size from hownH) k e; omega)).same (Fr.setCell w3 ⟨G + 1 + 1, 1, none⟩ _)
        · obtain rfl : i = nv := by omega
          have hin : decide ((i : Int) < (i : Int)) = false := by simp
          have hti : tl.take i = tl := List.take_of_length_le (by omega)
          rw [hti] at hrow
          obtain ⟨a5, c5, hv5, _, _⟩ := hrow.shape
          obtain ⟨a4, c4, hv4, _⟩ := (show FsR X V.heap.size v4 gl from hfsX).sgl
          subst hv5
          subst hv4
          obtain ⟨k0, k1⟩ := Cd.box2 hbx
          have hx1 := hfr.heap ((show Fr (fun k => k = G + 1 + 1) V X from hfrX).heap (show V.heap[G + 1]? = _ from xrH) (by omega)) (by omega)
          have z0 := frozen_of_row hx1 0
          have z1 := frozen_of_row hx1 1
          obtain ⟨m0, m1⟩ := Cd.box2 hx1
          have hx1H : Hidden (wr.heap[G + 1]? = some (.cells #[.slice none 0 0, .slice none 0 0] 64 (0, 0))) := hx1
          have hrowH : Hidden (Row RI 3 1 wr X.heap.size (.slice a5 tl.length c5) tl) := hrow
          have hzXH : Hidden (G + 3 ≤ X.heap.size) := hzX
          clear hx1 hbx hrow hfr hti hil htl hzX hi
          go_wp2_with fail
          have hw : w.heap.size = G := hGH
          have hzX : G + 3 ≤ X.heap.size := hzXH
          have hzV : V.heap.size = G + 3 := hszV
          have ff : Fr (fun k => k = G + 1) wr ((wr.setCell ⟨G + 1, 0, none⟩ (.slice a4 gl.length c4)).setCell ⟨G + 1, 1, none⟩ (.slice a5 tl.length c5)) := (Fr.setCell _ ⟨G + 1, 0, none⟩ _).same (Fr.setCell _ ⟨G + 1, 1, none⟩ _)
          refine post_one rfl rfl _ #[.slice a4 gl.length c4, .slice a5 tl.length c5] 64 _ rfl (two_put (show wr.heap[G + 1]? = _ from hx1H) _ _) Tryz.underlying64 rfl (by kernel_rfl) ⟨_, rfl, ⟨_, _, rfl, ?_, ?_⟩, ?_⟩
          · rw [show (frI ⟨vars, fns, mn⟩).fns = gl from (show gl = _ from hglH).symm]
            exact (((show FsR X V.heap.size (.slice a4 gl.length c4) gl from hfsX).keepB (show Fr (fun k => k = G + 1 + 1) X wr from hfrH) (by omega)).keepB ff (by omega)).lower (by omega)
          · rw [show (frI ⟨vars, fns, mn⟩).vars = tl from (show tl = _ from htlH).symm]
            exact own_lower (Row.owi ((show Row RI 3 1 wr X.heap.size (.slice a5 tl.length c5) tl from hrowH).keep ff (fun k e => by have e : k = G + 1 := e; omega))) (by omega)
          · exact ((show Fr (fun _ => False) w X from hw0).over (show Fr (fun k => k = G + 1 + 1) X wr from hfrH) (fun k e => by omega)).over ff (fun k e => by omega)
end Go.Proofs.YtoiglopilpoafaaGreatDoor.Im
