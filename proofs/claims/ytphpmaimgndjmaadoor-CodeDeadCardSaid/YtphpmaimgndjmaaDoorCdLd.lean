/- CodeDead. -/
import Derived.Test.YtphpmaimgndjmaaDoorCdZzAll
import Derived.Test.YtphpmaimgndjmaaDoorCdLAll
namespace Go.Proofs.YtphpmaimgndjmaaDoor.Cd
open Go.RowKit Ty
set_option linter.unusedSimpArgs false
set_option linter.unusedVariables false

set_option maxRecDepth 20000 in
set_option maxHeartbeats 2000000 in
theorem dead_walk (f : Fu) (p : Fm) (a0 a2 a3 a4 a5 : Option Addr) (c0 c2 c3 c4 c5 : Nat) (at' : Int) (i : In) (w : World) (h0 : InL w a0 c0 f.sg.ps) (h2 : InL w a2 c2 f.loc) (h3 : IL w a3 c3 f.cd) (h4 : SgL w a4 c4 p.fns) (h5 : InL w a5 c5 p.vars)
    (hb0 : f.sg.ps.length ≤ 17592186044416) (hb2 : f.loc.length ≤ 17592186044416) (hb3 : f.cd.length ≤ 4398046510976) (hb4 : p.fns.length ≤ 4398046510976) (hb5 : p.vars.length ≤ 17592186044416) (hps : ∀ g ∈ p.fns, g.ps.length ≤ 17592186044416) (hok : ∀ i ∈ f.cd, OkIn i) (hi : OkIn i) (ht : F.Tab w) :
    Calls Tryd.prog 4 #[.agg (fnV f a0 a2 a3 c0 c2 c3), .agg (fmV p a4 a5 c4 c5), ci at', inV i] w fun e w' => e = .returned (.bool true) ∧ Fr (fun _ => False) w w' := by
  obtain ⟨W0, hW0⟩ : ∃ W, W = ((w.alloc (.cells (fnV f a0 a2 a3 c0 c2 c3) 27 (0, 0))).alloc (.cells (fmV p a4 a5 c4 c5) 30 (0, 0))).alloc (.cells #[ci i.op, ci i.n, ci i.t, .int .u64 i.b] 55 (0, 0)) := ⟨_, rfl⟩
  have fW0 : Fr (fun _ => False) w W0 := by rw [hW0]; exact ((Fr.alloc _ _ _).same (Fr.alloc _ _ _)).same (Fr.alloc _ _ _)
  have r4 : W0.heap[w.heap.size]? = some (.cells (fnV f a0 a2 a3 c0 c2 c3) 27 (0, 0)) := by rw [hW0]; exact (Fr.alloc (fun _ => False) _ _).heap (heap_alloc2_old _ _ _) (fun f => f)
  have r5 : W0.heap[w.heap.size + 1]? = some (.cells (fmV p a4 a5 c4 c5) 30 (0, 0)) := by rw [hW0]; exact (Fr.alloc (fun _ => False) _ _).heap (heap_alloc2_new _ _ _) (fun f => f)
  have r7 : W0.heap[w.heap.size + 1 + 1]? = some (.cells #[ci i.op, ci i.n, ci i.t, .int .u64 i.b] 55 (0, 0)) := by rw [hW0]; exact alloc_at _ _ _ (by simp)
  have kl := live_any W0 (tab_fr ht fW0)
  have kF : ∀ W B, Fr (fun _ => False) w W → B ≤ W.heap.size → _ := fun W B hW hB => fn_lit f a0 a2 a3 c0 c2 c3 B W (h0.keep hW) (h2.keep hW) (h3.keep hW) hb0 hb2 hb3 hB
  have kP : ∀ W B, Fr (fun _ => False) w W → B ≤ W.heap.size → _ := fun W B hW hB => frame_lit p a4 a5 c4 c5 B W (h4.keep hW) (h5.keep hW) hb4 hb5 hps hB
  have hW0H : Hidden (W0 = _) := hW0
  have hb3H : Hidden (f.cd.length ≤ 4398046510976) := hb3
  have hokH : Hidden (∀ i ∈ f.cd, OkIn i) := hok
  have hpsH : Hidden (∀ g ∈ p.fns, g.ps.length ≤ 17592186044416) := hps
  have htH : Hidden (F.Tab w) := ht
  have hiH : Hidden (OkIn i) := hi
  clear hW0 h0 h2 h3 h4 h5 hb0 hb2 hb3 hb4 hb5 hps hok hi ht
  go_enter Tryd.func4, Tryd.ntmps4
  go_wp2_with fail
  rw [← (show W0 = _ from hW0H)]
  clear hW0H
  go_at_call 5
  refine kl.mono ?_
  rintro e V ⟨rfl, f1⟩
  have fV : Hidden (Fr (fun _ => False) w V) := fW0.same f1
  have r4V := f1.heap r4 (fun f => f)
  have r5V := f1.heap r5 (fun f => f)
  have r7V := f1.heap r7 (fun f => f)
  have r7H : Hidden (V.heap[w.heap.size + 1 + 1]? = some (.cells #[ci i.op, ci i.n, ci i.t, .int .u64 i.b] 55 (0, 0))) := r7V
  have r4H : Hidden (V.heap[w.heap.size]? = some (.cells (fnV f a0 a2 a3 c0 c2 c3) 27 (0, 0))) := r4V
  have r5H : Hidden (V.heap[w.heap.size + 1]? = some (.cells (fmV p a4 a5 c4 c5) 30 (0, 0))) := r5V
  clear f1 r4 r5 r7 kl fW0 r4V r5V r7V
  generalize hG : w.heap.size = G at *
  have hGH : Hidden (w.heap.size = G) := hG
  clear hG
  go_upto_region 3 with fail
  refine own_region f p (fnV f a0 a2 a3 c0 c2 c3) (fmV p a4 a5 c4 c5) G (G + 1) rfl rfl (by decide) (by decide) (by decide) (by intro d hd; simp at hd ⊢; omega) rfl rfl r4H r5H (fun W hW => kF W V.heap.size ((show Fr (fun _ => False) w V from fV).same hW) hW.size) (fun W hW => kP W V.heap.size ((show Fr (fun _ => False) w V from fV).same hW) hW.size) ?_
  intro wx x1 x3 g9 g10 b0 b2 b3 b4 b5 e0 e2 e3 e4 e5 h9 h10 hF hP l9 l10 fx
  simp only [List.setIfInBounds_toArray, List.set_cons_zero, List.set_cons_succ]
  have fwx : Fr (fun _ => False) w wx := (show Fr (fun _ => False) w V from fV).same fx
  have iF : Fi wx f p b0 b2 b3 b4 b5 e0 e2 e3 e4 e5 := fi_lit hF hP hokH hpsH (tab_fr htH fwx)
  have kv := verify_any f p b0 b2 b3 b4 b5 e0 e2 e3 e4 e5 _ _ _ _ _ rfl rfl rfl rfl rfl wx iF
  have ks : ∀ (W : World) (m : Int), Fr (fun _ => False) wx W → _ := fun W m hW => shape_any f p b0 b2 b3 b4 b5 e0 e2 e3 e4 e5 _ _ _ _ _ rfl rfl rfl rfl rfl m W (iF.keep hW)
  have hokx : OkIn i := hiH
  have kr := fun W => right_any i hokx.b W
  obtain ⟨y0, y1, y2, y3⟩ := box4 h9
  have z0 : wx.cell? ⟨g10, 0, none⟩ = some (.slice b4 p.fns.length e4) := cell_of_row _ _ 0 _ _ _ h10
  have z1 : wx.cell? ⟨g10, 1, none⟩ = some (.slice b5 p.vars.length e5) := cell_of_row _ _ 1 _ _ _ h10
  have h9H : Hidden (wx.heap[g9]? = some (.cells (fnV f b0 b2 b3 e0 e2 e3) 35 (0, 0))) := h9
  have h10H : Hidden (wx.heap[g10]? = some (.cells (fmV p b4 b5 e4 e5) 39 (0, 0))) := h10
  have iFH : Hidden (Fi wx f p b0 b2 b3 b4 b5 e0 e2 e3 e4 e5) := iF
  have fxH : Hidden (Fr (fun _ => False) V wx) := fx
  have fwxH : Hidden (Fr (fun _ => False) w wx) := fwx
  have kFH : Hidden _ := kF
  have ksH : Hidden _ := ks
  clear hF hP l9 l10 fx fwx iF h9 h10 hokx kF kP
  go_upto_region 7 with (first
    | (go_at_call 8; refine kv.mono ?_; rintro e w1 ⟨rfl, f1⟩
       replace y0 := f1.cellN y0; replace y1 := f1.cellN y1; replace y2 := f1.cellN y2; replace y3 := f1.cellN y3; replace z0 := f1.cellN z0; replace z1 := f1.cellN z1)
    | (go_at_call 9; refine (ks w1 at' f1).mono ?_; rintro e w2 ⟨vs, rfl, hr, f2⟩
       replace y0 := f2.cellN y0; replace y1 := f2.cellN y1; replace y2 := f2.cellN y2; replace y3 := f2.cellN y3; replace z0 := f2.cellN z0; replace z1 := f2.cellN z1
       obtain ⟨i0, i1, i2, i3⟩ := box4 ((((show Fr (fun _ => False) V wx from fxH).same f1).same f2).heap r7H (fun f => f))
       clear hr))
  have f7 : Fr (fun _ => False) w2 (w2.alloc (.cells #[ci i.op, ci i.n, ci i.t, .int .u64 i.b] 50 (0, 0))) := Fr.alloc _ _ _
  have h16 : (w2.alloc (.cells #[ci i.op, ci i.n, ci i.t, .int .u64 i.b] 50 (0, 0))).heap[w2.heap.size]? = some (.cells #[ci i.op, ci i.n, ci i.t, .int .u64 i.b] 50 (0, 0)) := alloc_new _ _
  generalize w2.alloc (.cells #[ci i.op, ci i.n, ci i.t, .int .u64 i.b] 50 (0, 0)) = W7 at *
  generalize w2.heap.size = gx at *
  replace y0 := f7.cellN y0; replace y1 := f7.cellN y1; replace y2 := f7.cellN y2; replace y3 := f7.cellN y3; replace z0 := f7.cellN z0; replace z1 := f7.cellN z1
  obtain ⟨q0, q1, q2, q3⟩ := box4 h16
  have gw7 : Hidden (Fr (fun _ => False) wx W7) := (f1.same f2).same f7
  have h16H : Hidden (W7.heap[gx]? = some (.cells #[ci i.op, ci i.n, ci i.t, .int .u64 i.b] 50 (0, 0))) := h16
  clear kv ks f1 f2 f7 h16 i0 i1 i2 i3
  obtain ⟨VR, hVR⟩ : ∃ VR, VR = verS f p := ⟨_, rfl⟩
  rw [← hVR]
  have hVRH : Hidden (VR = verS f p) := hVR
  obtain ⟨SB, hSB⟩ : ∃ SB, SB = shB (shpS f p at') := ⟨_, rfl⟩
  rw [← hSB]
  have hSBH : Hidden (SB = shB (shpS f p at')) := hSB
  obtain ⟨RT, hRT⟩ : ∃ RT, RT = rightS i := ⟨_, rfl⟩
  rw [← hRT] at kr
  have hRTH : Hidden (RT = rightS i) := hRT
  clear hVR hSB hRT
  obtain ⟨vr1, vr2⟩ := VR
  generalize shN (shpS f p at') = SN at *
  by_cases c1 : vr2 = 0
  case neg =>
    have hb1 : (vr2 == 0) = false := by simpa using c1
    have hb2 : (vr2 != 0) = true := by simpa using c1
    clear c1
    go_wp2_with fail
    go_ret
    exact ⟨rfl, (show Fr (fun _ => False) w wx from fwxH).same gw7⟩
  subst c1
  cases hs : SB
  case true =>
    subst hs
    go_wp2_with fail
    go_ret
    exact ⟨rfl, (show Fr (fun _ => False) w wx from fwxH).same gw7⟩
  subst hs
  by_cases c3 : at' < 0
  · have hb3 : decide (at' < 0) = true := by simpa using c3
    clear c3
    go_wp2_with fail
    go_ret
    exact ⟨rfl, (show Fr (fun _ => False) w wx from fwxH).same gw7⟩
  obtain ⟨k, rfl⟩ : ∃ k : Nat, at' = k := ⟨at'.toNat, by omega⟩
  have hb3 : decide ((k : Int) < 0) = false := by simp
  clear c3
  by_cases c4 : f.cd.length ≤ k
  · have hb4 : decide ((f.cd.length : Int) ≤ (k : Int)) = true := by simp; omega
    have hb5 : decide (f.cd.length ≤ k) = true := by simpa using c4
    clear c4
    go_wp2_with fail
    go_ret
    exact ⟨rfl, (show Fr (fun _ => False) w wx from fwxH).same gw7⟩
  have hb4 : decide ((f.cd.length : Int) ≤ (k : Int)) = false := by simp; omega
  have hb5 : decide (f.cd.length ≤ k) = false := by simp; omega
  have hk : k < f.cd.length := by omega
  clear c4
  cases hr : RT
  · subst hr
    go_wp2_with (first
      | (go_at_call 12; refine (kr _).mono ?_; rintro e W8 ⟨rfl, f8⟩
         have f8H : Hidden (Fr (fun _ => False) W7 W8) := f8
         clear f8))
    go_ret
    exact ⟨rfl, ((show Fr (fun _ => False) w wx from fwxH).same gw7).same f8H⟩
  subst hr
  obtain ⟨hver, hshp⟩ := dead_plain (f := f) (p := p) (a := k) (i := i) (by rw [← (show _ = verS f p from hVRH)]) hk (by have := (show false = shB (shpS f p k) from hSBH); cases hz : shpS f p k; rfl; rw [hz] at this; cases this) (show true = rightS i from hRTH).symm
  have hverH : Hidden _ := hver
  have hshpH : Hidden _ := hshp
  have hkH : Hidden (k < f.cd.length) := hk
  clear hver hshp hk
  go_upto_region 10 with (first
    | (go_at_call 12; refine (kr _).mono ?_; rintro e W8 ⟨rfl, f8⟩
       have gw8 : Hidden (Fr (fun _ => False) wx W8) := (show Fr (fun _ => False) wx W7 from gw7).same f8
       have f8H : Hidden (Fr (fun _ => False) W7 W8) := f8
       obtain ⟨F0, F1, F2, F3⟩ := box4 ((((show Fr (fun _ => False) V wx from fxH).same gw7).same f8).heap r4H (fun f => f))
       clear f8 kr y0 y1 y2 y3 z0 z1 q0 q1 q2 q3)
    | (go_at_call 6; refine ((show ∀ (W : World) (B : Nat), Fr (fun _ => False) w W → B ≤ W.heap.size → _ from kFH) W8 W8.heap.size ((show Fr (fun _ => False) w wx from fwxH).same gw8) (Nat.le_refl _)).mono ?_
       rintro e W9 ⟨m0, m2, m3, n0, n2, n3, rfl, hO, f9⟩
       clear F0 F1 F2 F3))
  have f10 : Fr (fun _ => False) W9 (W9.alloc (.cells (fnV f m0 m2 m3 n0 n2 n3) 35 (0, 0))) := Fr.alloc _ _ _
  have h17 : (W9.alloc (.cells (fnV f m0 m2 m3 n0 n2 n3) 35 (0, 0))).heap[W9.heap.size]? = some (.cells (fnV f m0 m2 m3 n0 n2 n3) 35 (0, 0)) := alloc_new _ _
  generalize W9.alloc (.cells (fnV f m0 m2 m3 n0 n2 n3) 35 (0, 0)) = W10 at *
  generalize W9.heap.size = gO at *
  obtain ⟨gc, cur, rfl, hgc, hcur, hlc, hmx, ⟨u0, u1, u2, u3, r0, r1, r2, r3⟩, hfz, hO11⟩ := other_at (hO.keepN f10) k hkH i
  have fA : Fr (fun _ => False) W8 W10 := f9.same f10
  have hne : gO ≠ gc := by
    rintro rfl
    rw [h17] at hcur
    simp only [Option.some.injEq, Obj.cells.injEq] at hcur
    exact absurd hcur.2.1 (by decide)
  have fB : Fr (fun j => j = gc) W10 (set4 W10 gc k i) := set4_fr W10 gc k i
  have gw11 : Hidden (Fr (fun _ => False) wx (set4 W10 gc k i)) := (show Fr (fun _ => False) wx W8 from gw8).same (fA.over fB (fun j e => by omega))
  have h17H : Hidden ((set4 W10 gc k i).heap[gO]? = some (.cells (fnV f m0 m2 (some ⟨gc, 0, none⟩) n0 n2 n3) 35 (0, 0))) := fB.heap h17 hne
  have iO : Fi (set4 W10 gc k i) { f with cd := f.cd.set k i } p m0 m2 (some ⟨gc, 0, none⟩) b4 b5 n0 n2 n3 e4 e5 := fi_other hO11 ((show Fi wx f p b0 b2 b3 b4 b5 e0 e2 e3 e4 e5 from iFH).keep gw11) (fun x hx => by
    rcases List.mem_or_eq_of_mem_set hx with h | h
    · exact (show ∀ i ∈ f.cd, OkIn i from hokH) x h
    · rw [h]; exact hiH)
  have kvO := verify_any { f with cd := f.cd.set k i } p m0 m2 (some ⟨gc, 0, none⟩) b4 b5 n0 n2 n3 e4 e5 f.sg.ps.length f.loc.length f.cd.length p.fns.length p.vars.length rfl rfl List.length_set rfl rfl _ iO
  rw [show verS { f with cd := f.cd.set k i } p = (0, 0) from hverH] at kvO
  simp only [] at kvO
  have ksO : ∀ (W : World) (m : Int), Fr (fun _ => False) (set4 W10 gc k i) W → _ := fun W m hW => shape_any { f with cd := f.cd.set k i } p m0 m2 (some ⟨gc, 0, none⟩) b4 b5 n0 n2 n3 e4 e5 f.sg.ps.length f.loc.length f.cd.length p.fns.length p.vars.length rfl rfl List.length_set rfl rfl m W (iO.keep hW)
  simp only [show ∀ n : Int, shpS { f with cd := f.cd.set k i } p n = shpS f p n from hshpH] at ksO
  obtain ⟨q0, q1, q2, q3⟩ := box4 (((show Fr (fun _ => False) W7 W8 from f8H).same fA).heap h16H (fun f => f))
  obtain ⟨d0, d1, d2, d3⟩ := box4 h17
  have hkn : (k : Int) < (f.cd.length : Int) := by have : k < f.cd.length := hkH; omega
  have hk0 : (0 : Int) ≤ (k : Int) := by omega
  have z_0 := hfz (k * 4)
  have z_1 := hfz (k * 4 + 1)
  have z_2 := hfz (k * 4 + 2)
  have z_3 := hfz (k * 4 + 3)
  have iOH : Hidden (Fi (set4 W10 gc k i) { f with cd := f.cd.set k i } p m0 m2 (some ⟨gc, 0, none⟩) b4 b5 n0 n2 n3 e4 e5) := iO
  have ksOH : Hidden _ := ksO
  clear hO f9 f10 h17 fA fB hO11 hcur hgc hfz iO ksO hlc hmx
  go_upto_region 11 with fail
  generalize hW11 : set4 W10 gc k i = W11 at gw11 h17H iOH ksOH kvO
  have hW11' : ((((W10.setCell ⟨gc, k * 4, none⟩ (ci i.op)).setCell ⟨gc, k * 4 + 1, none⟩ (ci i.n)).setCell ⟨gc, k * 4 + 2, none⟩ (ci i.t)).setCell ⟨gc, k * 4 + 3, none⟩ (.int .u64 i.b)) = W11 := hW11
  rw [hW11']
  clear hW11 hW11'
  clear r0 r1 r2 r3 z_0 z_1 z_2 z_3 q0 q1 q2 q3 d0 d1 d2 d3 hkn hk0
  obtain ⟨d0, d1, d2, d3⟩ := box4 h17H
  obtain ⟨y0, y1, y2, y3⟩ := box4 ((show Fr (fun _ => False) wx W11 from gw11).heap h9H (fun f => f))
  have h10' := (show Fr (fun _ => False) wx W11 from gw11).heap h10H (fun f => f)
  have z0 : W11.cell? ⟨g10, 0, none⟩ = some (.slice b4 p.fns.length e4) := cell_of_row _ _ 0 _ _ _ h10'
  have z1 : W11.cell? ⟨g10, 1, none⟩ = some (.slice b5 p.vars.length e5) := cell_of_row _ _ 1 _ _ _ h10'
  clear h10'
  go_upto_region 14 with (first
    | (go_at_call 8; refine kvO.mono ?_; rintro e W12 ⟨rfl, f12⟩
       have gw12 : Hidden (Fr (fun _ => False) W11 W12) := f12
       clear f12 y0 y1 y2 y3 z0 z1 d0 d1 d2 d3))
  have gwx : Hidden (Fr (fun _ => False) wx W12) := (show Fr (fun _ => False) wx W11 from gw11).same gw12
  clear kvO
  go_wp2_with fail
  go_loopg [20, 21, 22, 23, 24, 25, 26] f.cd.length (fun gk iv _ _ _ _ _ _ wr => ∃ j : Nat, iv = .int .i64 (j : Int) ∧ j ≤ f.cd.length ∧ gk = f.cd.length - j ∧ Fr (fun _ => False) W12 wr)
  case atStart => exact ⟨0, rfl, by omega, rfl, Fr.refl _ _⟩
  case round =>
    obtain ⟨j, rfl, hj, hkk, hf⟩ := hrel
    have hkkH : Hidden (gk = f.cd.length - j) := hkk
    have hfH : Hidden (Fr (fun _ => False) W12 wr) := hf
    clear hkk hf
    by_cases hjl : j < f.cd.length
    · have hA := ((show Fr (fun _ => False) wx W12 from gwx).same (show Fr (fun _ => False) W12 wr from hfH))
      have hB := ((show Fr (fun _ => False) W11 W12 from gw12).same (show Fr (fun _ => False) W12 wr from hfH))
      obtain ⟨d0, d1, d2, d3⟩ := box4 (hB.heap h17H (fun f => f))
      obtain ⟨y0, y1, y2, y3⟩ := box4 (hA.heap h9H (fun f => f))
      have h10' := hA.heap h10H (fun f => f)
      have z0 : wr.cell? ⟨g10, 0, none⟩ = some (.slice b4 p.fns.length e4) := cell_of_row _ _ 0 _ _ _ h10'
      have z1 : wr.cell? ⟨g10, 1, none⟩ = some (.slice b5 p.vars.length e5) := cell_of_row _ _ 1 _ _ _ h10'
      have hAH : Hidden (Fr (fun _ => False) wx wr) := hA
      have hBH : Hidden (Fr (fun _ => False) W11 wr) := hB
      have k1 := (show ∀ (W : World) (m : Int), Fr (fun _ => False) wx W → _ from ksH) wr j hA
      have k2 := fun W (hW : Fr (fun _ => False) wr W) => (show ∀ (W : World) (m : Int), Fr (fun _ => False) W11 W → _ from ksOH) W j (hB.same hW)
      have h512 : (shL (shpS f p j)).length ≤ 100000000 := Nat.le_trans (shp_len f p j) (by omega)
      have h512H : Hidden ((shL (shpS f p j)).length ≤ 100000000) := h512
      have hjn2 : (j : Int) < (f.cd.length : Int) := by omega
      generalize shL (shpS f p j) = X at *
      generalize shN (shpS f p j) = Y at *
      generalize shB (shpS f p j) = Z at *
      clear hA hB h10' h512
      go_upto_region 19 with (first
        | (go_at_call 9; refine k1.mono ?_; rintro e wa ⟨va, rfl, ha, fa⟩
           obtain ⟨ao, co, rfl, hIa⟩ := OwI.inl ha
           replace d0 := fa.cellN d0; replace d1 := fa.cellN d1; replace d2 := fa.cellN d2; replace d3 := fa.cellN d3; replace z0 := fa.cellN z0; replace z1 := fa.cellN z1
           clear y0 y1 y2 y3 ha k1)
        | (go_at_call 9; refine (k2 wa fa).mono ?_; rintro e wb ⟨vb, rfl, hb, fb⟩
           obtain ⟨bo, cob, rfl, hIb⟩ := OwI.inl hb
           clear hb k2 d0 d1 d2 d3 z0 z1))
      have kal := alike_any ao bo _ _ co cob X X rfl rfl wb (hIa.keep fb) hIb h512H h512H
      rw [decide_eq_true rfl] at kal
      have hend : Hidden (Fr (fun _ => False) W12 wb) := ((show Fr (fun _ => False) W12 wr from hfH).same fa).same fb
      clear hIa hIb fa fb
      go_wp2_with (first
        | (go_at_call 11; refine kal.mono ?_; rintro e wd ⟨rfl, fd⟩
           have hend2 : Hidden (Fr (fun _ => False) W12 wd) := (show Fr (fun _ => False) W12 wb from hend).same fd
           clear fd))
      go_roundg (f.cd.length - (j + 1))
      case measure => have : gk = f.cd.length - j := hkkH; omega
      case rel => exact ⟨j + 1, (by have : f.cd.length ≤ 4398046510976 := hb3H; have hw : wrap64 ((j : Int) + 1) = (j : Int) + 1 := (by unfold wrap64; omega); rw [hw]; rfl), by omega, rfl, hend2⟩
    · obtain rfl : j = f.cd.length := by omega
      have hA := ((show Fr (fun _ => False) wx W12 from gwx).same (show Fr (fun _ => False) W12 wr from hfH))
      obtain ⟨y0, y1, y2, y3⟩ := box4 (hA.heap h9H (fun f => f))
      have hjn2 : decide ((f.cd.length : Int) < (f.cd.length : Int)) = false := by simp
      have hAH : Hidden (Fr (fun _ => False) wx wr) := hA
      clear hA hjl
      go_wp2_with fail
      go_ret
      exact ⟨rfl, (show Fr (fun _ => False) w wx from fwxH).same hAH⟩
end Go.Proofs.YtphpmaimgndjmaaDoor.Cd
namespace Go.Proofs.YtphpmaimgndjmaaDoor.codeDead
open Go.RowKit Ty Cd
theorem walk (v : Value) (f : Fu) (u : Value) (p : Fm) (a : Int) (z : Value) (i : In) (W : World) (hf : FnA W v f) (hp : FmA W u p) (_ : (Lit.int .i64 a).wf = true) (hi : InA W z i) (ht : F.Tab W) : Calls Tryd.prog 4 #[v, u, .int .i64 a, z] W fun e w' => e = .returned (.bool true) ∧ Fr (fun _ => False) W w' := by
  obtain ⟨a0, a2, a3, c0, c2, c3, rfl, h0, h2, h3, b0, b2, b3, ok⟩ := hf
  obtain ⟨a4, a5, c4, c5, rfl, h4, h5, b4, b5, hps⟩ := hp
  obtain ⟨rfl, oi⟩ := hi
  exact dead_walk f p a0 a2 a3 a4 a5 c0 c2 c3 c4 c5 a i W h0 h2 h3 h4 h5 b0 b2 b3 b4 b5 hps ok oi ht
end Go.Proofs.YtphpmaimgndjmaaDoor.codeDead
