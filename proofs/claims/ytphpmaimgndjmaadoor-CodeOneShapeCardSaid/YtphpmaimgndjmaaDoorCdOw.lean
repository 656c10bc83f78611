/- CodeOneShape. -/
import Derived.Test.YtphpmaimgndjmaaDoorCdZzAll
import Derived.Test.YtphpmaimgndjmaaDoorCdLAll
import Derived.Test.YtphpmaimgndjmaaDoorTrG
namespace Go.Proofs.YtphpmaimgndjmaaDoor.Cd
open Go.RowKit Ty
set_option linter.unusedSimpArgs false
set_option linter.unusedVariables false
theorem wrapI_eq {z y : Int} (h : z = y) (h1 : -9223372036854775808 ≤ z) (h2 : z ≤ 9223372036854775807) : IntKind.i64.wrap z = y := by rw [IntKind.wrap_i64]; omega
theorem wrap64_eq {z y : Int} (h : z = y) (h1 : -9223372036854775808 ≤ z) (h2 : z ≤ 9223372036854775807) : wrap64 z = y := by unfold wrap64; omega
theorem wrap_succ {a b : Nat} (h : b = a + 1) (ha : a ≤ 32) : wrap64 ((a : Int) + 1) = (b : Int) ∧ IntKind.i64.wrap ((a : Int) + 1) = (b : Int) := by
  subst h
  exact ⟨wrap64_eq (by omega) (by omega) (by omega), wrapI_eq (by omega) (by omega) (by omega)⟩
theorem wrap_pred {a b : Nat} (h : b + 1 = a) (ha : a ≤ 32) : wrap64 ((a : Int) - 1) = (b : Int) ∧ IntKind.i64.wrap ((a : Int) - 1) = (b : Int) := by
  subst h
  exact ⟨wrap64_eq (by omega) (by omega) (by omega), wrapI_eq (by omega) (by omega) (by omega)⟩
theorem size_int1 (u : World) : (sizeOf 3).run Tryd.prog u = .ok 1 u := by
  simp [sizeOf, go_sem]
  rfl
theorem slice_to (so : Option Addr) (n m sc : Nat) (h : m ≤ sc) (w : World) : (Instr.slice 22 (.slice so n sc) none (some (.int .i64 (m : Int))) none).run Tryd.prog w = .ok (.slice so m sc) w := by
  have he : Tryd.prog.elem 22 = 3 := by kernel_rfl
  rw [run_slice_h w _ _ _ _ (by rw [he]; exact Tryd.underlying22) .i64 (m : Int) (by omega) (by omega), he, size_int1 w]
  simp only [Result.andThen, sliced, Int.toNat_natCast, Nat.sub_zero, Nat.zero_mul]
  cases so with
  | none => simp
  | some a => simp [Addr.add]
theorem shp_tr {f : Fu} {p : Fm} {a : Int} {s : Sp} (h : shpS f p a = some s) : s.tr.length ≤ 32 := by
  unfold shpS at h
  split at h
  · cases h
  rename_i c
  simp only [not_or, Classical.not_not] at c
  obtain ⟨L, h1, h2, h3, h4, _⟩ := ver_fin c.1
  rw [h1] at h
  obtain ⟨g, hg⟩ := at_some h
  exact (over_len ((fin_inv h2 h3 h4).ov _ _ _ hg)).2
set_option maxRecDepth 20000 in
set_option maxHeartbeats 16000000 in
theorem one_walk (f : Fu) (p : Fm) (a0 a2 a3 a4 a5 : Option Addr) (c0 c2 c3 c4 c5 : Nat) (w : World) (h0 : InL w a0 c0 f.sg.ps) (h2 : InL w a2 c2 f.loc) (h3 : IL w a3 c3 f.cd) (h4 : SgL w a4 c4 p.fns) (h5 : InL w a5 c5 p.vars)
    (hb0 : f.sg.ps.length ≤ 17592186044416) (hb2 : f.loc.length ≤ 17592186044416) (hb3 : f.cd.length ≤ 4398046510976) (hb4 : p.fns.length ≤ 4398046510976) (hb5 : p.vars.length ≤ 17592186044416) (hps : ∀ g ∈ p.fns, g.ps.length ≤ 17592186044416) (hok : ∀ i ∈ f.cd, OkIn i) (ht : F.Tab w) :
    Calls Tryd.prog 3 #[.agg (fnV f a0 a2 a3 c0 c2 c3), .agg (fmV p a4 a5 c4 c5)] w fun e w' => e = .returned (.bool true) ∧ Fr (fun _ => False) w w' := by
  obtain ⟨W0, hW0⟩ : ∃ W, W = (w.alloc (.cells (fnV f a0 a2 a3 c0 c2 c3) 27 (0, 0))).alloc (.cells (fmV p a4 a5 c4 c5) 30 (0, 0)) := ⟨_, rfl⟩
  have fW0 : Fr (fun _ => False) w W0 := by rw [hW0]; exact (Fr.alloc _ _ _).same (Fr.alloc _ _ _)
  have r4 : W0.heap[w.heap.size]? = some (.cells (fnV f a0 a2 a3 c0 c2 c3) 27 (0, 0)) := by rw [hW0]; exact heap_alloc2_old _ _ _
  have r5 : W0.heap[w.heap.size + 1]? = some (.cells (fmV p a4 a5 c4 c5) 30 (0, 0)) := by rw [hW0]; exact heap_alloc2_new _ _ _
  have kl := live_any W0 (tab_fr ht fW0)
  have kF : ∀ W B, Fr (fun _ => False) w W → B ≤ W.heap.size → _ := fun W B hW hB => fn_lit f a0 a2 a3 c0 c2 c3 B W (h0.keep hW) (h2.keep hW) (h3.keep hW) hb0 hb2 hb3 hB
  have kP : ∀ W B, Fr (fun _ => False) w W → B ≤ W.heap.size → _ := fun W B hW hB => frame_lit p a4 a5 c4 c5 B W (h4.keep hW) (h5.keep hW) hb4 hb5 hps hB
  have hW0H : Hidden (W0 = _) := hW0
  have hb3H : Hidden (f.cd.length ≤ 4398046510976) := hb3
  have hokH : Hidden (∀ i ∈ f.cd, OkIn i) := hok
  have hpsH : Hidden (∀ g ∈ p.fns, g.ps.length ≤ 17592186044416) := hps
  have htH : Hidden (F.Tab w) := ht
  clear hW0 h0 h2 h3 h4 h5 hb0 hb2 hb3 hb4 hb5 hps hok ht
  go_enter Tryd.func3, Tryd.ntmps3
  go_wp2_with fail
  rw [← (show W0 = _ from hW0H)]
  clear hW0H
  go_at_call 5
  refine kl.mono ?_
  rintro e V ⟨rfl, f1⟩
  have fV : Hidden (Fr (fun _ => False) w V) := fW0.same f1
  have r4H : Hidden (V.heap[w.heap.size]? = some (.cells (fnV f a0 a2 a3 c0 c2 c3) 27 (0, 0))) := f1.heap r4 (fun f => f)
  have r5H : Hidden (V.heap[w.heap.size + 1]? = some (.cells (fmV p a4 a5 c4 c5) 30 (0, 0))) := f1.heap r5 (fun f => f)
  clear f1 r4 r5 kl fW0
  generalize hG : w.heap.size = G at *
  clear hG
  go_upto_region 3 with fail
  refine own_region f p (fnV f a0 a2 a3 c0 c2 c3) (fmV p a4 a5 c4 c5) G (G + 1) rfl rfl (by decide) (by decide) (by decide) (by intro d hd; simp at hd ⊢; omega) rfl rfl r4H r5H (fun W hW => kF W V.heap.size ((show Fr (fun _ => False) w V from fV).same hW) hW.size) (fun W hW => kP W V.heap.size ((show Fr (fun _ => False) w V from fV).same hW) hW.size) ?_
  intro wx x1 x3 g9 g10 b0 b2 b3 b4 b5 e0 e2 e3 e4 e5 h9 h10 hF hP l9 l10 fx
  simp only [List.setIfInBounds_toArray, List.set_cons_zero, List.set_cons_succ]
  have fwx : Fr (fun _ => False) w wx := (show Fr (fun _ => False) w V from fV).same fx
  have iF : Fi wx f p b0 b2 b3 b4 b5 e0 e2 e3 e4 e5 := fi_lit hF hP hokH hpsH (tab_fr htH fwx)
  have kv := verify_any f p b0 b2 b3 b4 b5 e0 e2 e3 e4 e5 _ _ _ _ _ rfl rfl rfl rfl rfl wx iF
  have ks : ∀ (W : World) (m : Int), Fr (fun _ => False) wx W → _ := fun W m hW => shape_any f p b0 b2 b3 b4 b5 e0 e2 e3 e4 e5 _ _ _ _ _ rfl rfl rfl rfl rfl m W (iF.keep hW)
  obtain ⟨y0, y1, y2, y3⟩ := box4 h9
  have z0 : wx.cell? ⟨g10, 0, none⟩ = some (.slice b4 p.fns.length e4) := cell_of_row _ _ 0 _ _ _ h10
  have z1 : wx.cell? ⟨g10, 1, none⟩ = some (.slice b5 p.vars.length e5) := cell_of_row _ _ 1 _ _ _ h10
  have h9H : Hidden (wx.heap[g9]? = some (.cells (fnV f b0 b2 b3 e0 e2 e3) 35 (0, 0))) := h9
  have h10H : Hidden (wx.heap[g10]? = some (.cells (fmV p b4 b5 e4 e5) 39 (0, 0))) := h10
  have iFH : Hidden (Fi wx f p b0 b2 b3 b4 b5 e0 e2 e3 e4 e5) := iF
  have fxH : Hidden (Fr (fun _ => False) V wx) := fx
  have fwxH : Hidden (Fr (fun _ => False) w wx) := fwx
  have ksH : Hidden _ := ks
  clear hF hP l9 l10 fx fwx iF h9 h10 kF kP
  go_upto_region 5 with (first
    | (go_at_call 8; refine kv.mono ?_; rintro e W4 ⟨rfl, f1⟩
       replace y0 := f1.cellN y0; replace y1 := f1.cellN y1; replace y2 := f1.cellN y2; replace y3 := f1.cellN y3; replace z0 := f1.cellN z0; replace z1 := f1.cellN z1))
  have gW4 : Hidden (Fr (fun _ => False) wx W4) := f1
  obtain ⟨VR, hVR⟩ : ∃ VR, VR = verS f p := ⟨_, rfl⟩
  rw [← hVR]
  have hVRH : Hidden (VR = verS f p) := hVR
  clear hVR kv
  obtain ⟨vr1, vr2⟩ := VR
  by_cases c1 : vr2 = 0
  case neg =>
    have hb1 : (vr2 == 0) = false := by simpa using c1
    have hb2 : (vr2 != 0) = true := by simpa using c1
    have hge : (0 : Int) ≤ vr1 := by have := ver_nonneg f p; rw [← (show _ = verS f p from hVRH)] at this; exact this
    have hge2 : decide ((0 : Int) ≤ vr1) = true := by simpa using hge
    have hnone : shpS f p vr1 = none := by unfold shpS; rw [if_pos (Or.inl (by rw [← (show _ = verS f p from hVRH)]; exact c1))]
    have kn := ks W4 vr1 f1
    rw [hnone] at kn
    clear c1 hnone ks f1
    go_wp2_with (first
      | (go_at_call 9; refine kn.mono ?_; rintro e wa ⟨va, rfl, _, fa⟩
         have faH : Hidden (Fr (fun _ => False) W4 wa) := fa
         clear fa kn))
    go_ret
    exact ⟨rfl, ((show Fr (fun _ => False) w wx from fwxH).same gW4).same faH⟩
  subst c1
  have hv : Hidden ((verS f p).2 = 0) := by show _ = _; rw [← (show _ = verS f p from hVRH)]
  clear ks f1 y0 y1 y2 y3 z0 z1
  go_wp2_with fail
  go_loopg [12, 13, 14, 15, 16, 17, 18, 19, 20, 21, 22, 23, 24, 25, 26, 27, 28] f.cd.length (fun gk iv _ _ _ _ _ _ _ _ _ _ _ _ _ _ _ _ wr => ∃ j : Nat, iv = .int .i64 (j : Int) ∧ j ≤ f.cd.length ∧ gk = f.cd.length - j ∧ Fr (fun _ => False) W4 wr)
  case atStart => exact ⟨0, rfl, by omega, rfl, Fr.refl _ _⟩
  case round =>
    obtain ⟨j, rfl, hj, hkk, hf⟩ := hrel
    have hkkH : Hidden (gk = f.cd.length - j) := hkk
    have hfH : Hidden (Fr (fun _ => False) W4 wr) := hf
    clear hkk hf
    have hA := ((show Fr (fun _ => False) wx W4 from gW4).same (show Fr (fun _ => False) W4 wr from hfH))
    obtain ⟨y0, y1, y2, y3⟩ := box4 (hA.heap h9H (fun f => f))
    have h10' := hA.heap h10H (fun f => f)
    have z0 : wr.cell? ⟨g10, 0, none⟩ = some (.slice b4 p.fns.length e4) := cell_of_row _ _ 0 _ _ _ h10'
    have z1 : wr.cell? ⟨g10, 1, none⟩ = some (.slice b5 p.vars.length e5) := cell_of_row _ _ 1 _ _ _ h10'
    have hAH : Hidden (Fr (fun _ => False) wx wr) := hA
    clear h10'
    by_cases hjl : j < f.cd.length
    case neg =>
      obtain rfl : j = f.cd.length := by omega
      have hjn2 : decide ((f.cd.length : Int) < (f.cd.length : Int)) = false := by simp
      clear hA hjl
      go_wp2_with fail
      go_ret
      exact ⟨rfl, (show Fr (fun _ => False) w wx from fwxH).same hAH⟩
    have hjn2 : (j : Int) < (f.cd.length : Int) := by omega
    have hj0 : (0 : Int) ≤ (j : Int) := by omega
    have hwj : wrap64 ((j : Int) + 1) = (j : Int) + 1 := by have : f.cd.length ≤ 4398046510976 := hb3H; exact wrap64_eq rfl (by omega) (by omega)
    have hwj2 : IntKind.i64.wrap ((j : Int) + 1) = (j : Int) + 1 := by have : f.cd.length ≤ 4398046510976 := hb3H; exact wrapI_eq rfl (by omega) (by omega)
    have hjlH : Hidden (j < f.cd.length) := hjl
    have k1 := (show ∀ (W : World) (m : Int), Fr (fun _ => False) wx W → _ from ksH) wr j hA
    cases hS : shpS f p j with
    | none =>
      rw [hS] at k1
      clear hA hjl hS
      go_wp2_with (first
        | (go_at_call 9; refine k1.mono ?_; rintro e wa ⟨va, rfl, _, fa⟩
           have hend : Hidden (Fr (fun _ => False) W4 wa) := (show Fr (fun _ => False) W4 wr from hfH).same fa
           clear fa k1 y0 y1 y2 y3 z0 z1))
      go_roundg (f.cd.length - (j + 1))
      case measure => have : gk = f.cd.length - j := hkkH; have : j < f.cd.length := hjlH; omega
      case rel => exact ⟨j + 1, (by first | rfl | (rw [hwj]; rfl)), by have : j < f.cd.length := hjlH; omega, rfl, hend⟩
    | some s =>
      rw [hS] at k1
      obtain ⟨A, Bq, L, hnx, hfar, hright⟩ := one_at hv hjl hS
      have htr0 : Hidden (s.tr.length ≤ 32) := shp_tr hS
      have hlen0 := shp_len f p j
      rw [hS] at hlen0
      simp only [shL] at hlen0
      obtain ⟨i, hi⟩ : ∃ i, f.cd[j]? = some i := ⟨_, List.getElem?_eq_getElem hjl⟩
      have hgi : f.cd.getD j default = i := by rw [List.getD_eq_getElem?_getD, hi]; rfl
      rw [hgi] at L hfar hright
      obtain ⟨b, off, rfl, hcd⟩ := (show Fi wx f p b0 b2 b3 b4 b5 e0 e2 e3 e4 e5 from iFH).cd.2.2.2.resolve_left (by rintro e; rw [e] at hi; simp at hi)
      obtain ⟨op, n, t, bb⟩ := i
      have u0 := hA.cellN (hcd j _ hi 0 _ rfl)
      have u1 := hA.cellN (hcd j _ hi 1 _ rfl)
      have u2 := hA.cellN (hcd j _ hi 2 _ rfl)
      have u3 := hA.cellN (hcd j _ hi 3 _ rfl)
      rw [Nat.add_zero] at u0
      have LH : Hidden (Law f p ⟨op, n, t, bb⟩ s A Bq) := L
      have hnxH : Hidden (∀ x, A = some x → shpS f p ((j : Int) + 1) = some x) := hnx
      have hfarH : Hidden (∀ x, Bq = some x → shpS f p n = some x) := hfar
      have hrightH : Hidden (rightS ⟨op, n, t, bb⟩ = true) := hright
      have hlenH : Hidden (s.st.length ≤ 512) := hlen0
      simp only [shL, shN, shB, Option.isSome_some] at k1
      clear hA hjl hS L hnx hfar hright hlen0 hgi hi hcd
      go_upto_region 14 with (first
        | (go_at_call 9; refine k1.mono ?_; rintro e wa ⟨va, rfl, ha, fa⟩
           obtain ⟨so, sc, rfl, hIs⟩ := OwI.inl ha
           replace y0 := fa.cellN y0; replace y1 := fa.cellN y1; replace y2 := fa.cellN y2; replace y3 := fa.cellN y3; replace z0 := fa.cellN z0; replace z1 := fa.cellN z1
           replace u0 := fa.cellN u0; replace u1 := fa.cellN u1; replace u2 := fa.cellN u2; replace u3 := fa.cellN u3
           have hIsH : Hidden (InL wa so sc s.st) := hIs
           have faH : Hidden (Fr (fun _ => False) wr wa) := fa
           clear ha k1 hIs fa))
      have f13 : Fr (fun _ => False) wa (wa.alloc (.cells #[ci op, ci n, ci t, .int .u64 bb] 50 (0, 0))) := Fr.alloc _ _ _
      have h16 : (wa.alloc (.cells #[ci op, ci n, ci t, .int .u64 bb] 50 (0, 0))).heap[wa.heap.size]? = some (.cells #[ci op, ci n, ci t, .int .u64 bb] 50 (0, 0)) := alloc_new _ _
      generalize wa.alloc (.cells #[ci op, ci n, ci t, .int .u64 bb] 50 (0, 0)) = wb at *
      generalize wa.heap.size = gi at *
      replace y0 := f13.cellN y0
      replace y1 := f13.cellN y1
      replace y2 := f13.cellN y2
      replace y3 := f13.cellN y3
      replace z0 := f13.cellN z0
      replace z1 := f13.cellN z1
      obtain ⟨q0, q1, q2, q3⟩ := box4 h16
      have gb : Fr (fun _ => False) wx wb := ((show Fr (fun _ => False) wx wr from hAH).same faH).same f13
      have kst := steps_any f p b0 b2 (some ⟨b, off, none⟩) b4 b5 e0 e2 e3 e4 e5 ⟨op, n, t, bb⟩ s A Bq so sc wb ((show Fi wx f p _ _ _ _ _ _ _ _ _ _ from iFH).keep gb) ((show InL wa so sc s.st from hIsH).keep f13) (by have : s.st.length ≤ 512 := hlenH; omega) LH hrightH
      have hle : tkN p ⟨op, n, t, bb⟩ ≤ s.st.length := (show Law f p ⟨op, n, t, bb⟩ s A Bq from LH).le
      obtain ⟨TK, hTK⟩ : ∃ k, k = tkN p ⟨op, n, t, bb⟩ := ⟨_, rfl⟩
      obtain ⟨PT, hPT⟩ : ∃ k, k = puT f p ⟨op, n, t, bb⟩ s.st := ⟨_, rfl⟩
      rw [← hTK, ← hPT] at kst
      rw [← hTK] at hle
      have hTKH : Hidden (TK = tkN p ⟨op, n, t, bb⟩) := hTK
      have hPTH : Hidden (PT = puT f p ⟨op, n, t, bb⟩ s.st) := hPT
      have hgt : decide ((s.st.length : Int) < (TK : Int)) = false := by simp; omega
      have hgt2 : decide (s.st.length < TK) = false := by simp; omega
      have hleH : Hidden (TK ≤ s.st.length) := hle
      have gbH : Hidden (Fr (fun _ => False) wx wb) := gb
      have f13H : Hidden (Fr (fun _ => False) wa wb) := f13
      have h16H : Hidden (wb.heap[gi]? = some (.cells #[ci op, ci n, ci t, .int .u64 bb] 50 (0, 0))) := h16
      clear f13 h16 gb hle hTK hPT u0 u1 u2 u3
      go_upto_region 15 with (first
        | (go_at_call 10; refine kst.mono ?_; rintro e wc ⟨pv, rfl, hP, fc⟩
           replace y0 := fc.cellN y0; replace y1 := fc.cellN y1; replace y2 := fc.cellN y2; replace y3 := fc.cellN y3; replace z0 := fc.cellN z0; replace z1 := fc.cellN z1
           replace q0 := fc.cellN q0; replace q1 := fc.cellN q1; replace q2 := fc.cellN q2; replace q3 := fc.cellN q3
           have hPH : Hidden (PutR wc pv PT) := hP
           have h16c : Hidden (wc.heap[gi]? = some (.cells #[ci op, ci n, ci t, .int .u64 bb] 50 (0, 0))) := fc.heap h16H (fun f => f)
           have gc : Hidden (Fr (fun _ => False) wx wc) := (show Fr (fun _ => False) wx wb from gbH).same fc
           have gR : Hidden (Fr (fun _ => False) W4 wc) := (((show Fr (fun _ => False) W4 wr from hfH).same faH).same f13H).same fc
           have hIc : Hidden (InL wc so sc s.st) := ((show InL wa so sc s.st from hIsH).keep f13H).keep fc
           clear hP fc kst))

      have hcase : op = 15 ∨ op = 16 ∨ op = 8 ∨ op = 9 ∨ op = 11 ∨ op = 13 ∨ (onT op = true ∧ op ≠ 15 ∧ op ≠ 16 ∧ op ≠ 8 ∧ op ≠ 9 ∧ op ≠ 11) := by
        have hk := (right_parts hrightH).1
        have hk' : 1 ≤ op ∧ op ≤ 17 := by unfold known at hk; exact of_decide_eq_true hk
        have : op = 1 ∨ op = 2 ∨ op = 3 ∨ op = 4 ∨ op = 5 ∨ op = 6 ∨ op = 7 ∨ op = 8 ∨ op = 9 ∨ op = 10 ∨ op = 11 ∨ op = 12 ∨ op = 13 ∨ op = 14 ∨ op = 15 ∨ op = 16 ∨ op = 17 := by omega
        rcases this with rfl | rfl | rfl | rfl | rfl | rfl | rfl | rfl | rfl | rfl | rfl | rfl | rfl | rfl | rfl | rfl | rfl <;> simp [onT]
      rcases hcase with rfl | rfl | rfl | rfl | rfl | rfl | ⟨hon, n15, n16, n8, n9, n11⟩
      · as_aux_lemma =>
          have hon : onT 15 = true := rfl
          obtain ⟨x, hx, hxst, hx15, hx16, hxtr⟩ := (show Law f p ⟨15, n, t, bb⟩ s A Bq from LH).nx hon
          have hxs : shpS f p ((j : Int) + 1) = some x := (show ∀ x, A = some x → _ from hnxH) x hx
          have hX512 : Hidden (x.st.length ≤ 512) := by have := shp_len f p ((j : Int) + 1); rw [hxs] at this; exact this
          have k2 : ∀ (W : World), Fr (fun _ => False) wx W → _ := fun W hW => (show ∀ (W : World) (m : Int), Fr (fun _ => False) wx W → _ from ksH) W ((j : Int) + 1) hW
          simp only [hxs, shL, shN, shB, Option.isSome_some] at k2
          obtain ⟨m, hm⟩ : ∃ m, m = s.st.length - TK := ⟨_, rfl⟩
          have hY : s.st.take m ++ PT = x.st := by rw [hm, show TK = _ from hTKH, show PT = _ from hPTH]; exact hxst.symm
          have hl5 : s.st.length ≤ 512 := hlenH
          have hl6 : TK ≤ s.st.length := hleH
          have hl7 : s.st.length ≤ sc := (show InL wc so sc s.st from hIc).1
          have hl8 : sc ≤ 9223372036854775807 := by have := (show InL wc so sc s.st from hIc).2.1; simpa [maxLen] using this
          have hsub : wrap64 ((s.st.length : Int) - (TK : Int)) = (m : Int) := wrap64_eq (by omega) (by omega) (by omega)
          have hsub2 : IntKind.i64.wrap ((s.st.length : Int) - (TK : Int)) = (m : Int) := wrapI_eq (by omega) (by omega) (by omega)
          have hm0 : (0 : Int) ≤ (m : Int) := by omega
          have hmc : (m : Int) ≤ (sc : Int) := by omega
          have hmc2 : m ≤ sc := by omega
          have hmH : Hidden (m ≤ s.st.length) := by show m ≤ _; omega
          obtain ⟨X2, hX2⟩ : ∃ X2, X2 = s.st ++ [1] := ⟨_, rfl⟩
          have hfs : shpS f p n = some ⟨X2, s.tr⟩ := by rw [hX2]; exact (show ∀ x, Bq = some x → _ from hfarH) _ ((show Law f p ⟨15, n, t, bb⟩ s A Bq from LH).j15 rfl)
          have hX2H : Hidden (s.st ++ [1] = X2) := hX2.symm
          have hX25 : Hidden (X2.length ≤ 512) := by have := shp_len f p n; rw [hfs] at this; exact this
          have k3 : ∀ (W : World), Fr (fun _ => False) wx W → _ := fun W hW => (show ∀ (W : World) (m : Int), Fr (fun _ => False) wx W → _ from ksH) W n hW
          simp only [hfs, shL, shN, shB, Option.isSome_some] at k3
          clear hfs hX2
          have hN : x.tr.length = s.tr.length + 1 := hx15 rfl
          obtain ⟨hwn, hwn2⟩ := wrap_succ hN htr0
          clear hN
          obtain ⟨L0, hL0⟩ : ∃ L0, L0 = s.st.take m := ⟨_, rfl⟩
          rw [← hL0] at hY
          have hYH : Hidden (L0 ++ PT = x.st) := hY
          have hLl : L0.length = m := by rw [hL0, List.length_take]; omega
          have hLlH : Hidden (L0.length = m) := hLl
          have hL5 : Hidden (L0.length ≤ 512) := by show _ ≤ _; omega
          have hIL : Hidden (InL wc so sc L0) := by show InL _ _ _ _; rw [hL0]; exact InL.take hIc m
          rw [hon]
          have hsl := fun W => slice_to so s.st.length m sc hmc2 W
          clear hx hxst hx15 hx16 hxtr hxs hm hY hl5 hl6 hl7 hL0 hLl hmH hm0 hmc hmc2 hl8
          go_upto_region 21 with (first
            | (go_at_call 9; refine (k2 wc gc).mono ?_; rintro e wd ⟨vt, rfl, hvt, fd⟩
               obtain ⟨tq, tc, rfl, hIt⟩ := OwI.inl hvt
               replace q0 := fd.cellN q0; replace q1 := fd.cellN q1; replace q2 := fd.cellN q2; replace q3 := fd.cellN q3
               have hItH : Hidden (InL wd tq tc x.st) := hIt
               have hPd : Hidden (PutR wd pv PT) := PutR.keep hPH fd
               have hId : Hidden (InL wd _ _ L0) := InL.keep hIL fd
               have gd : Hidden (Fr (fun _ => False) wc wd) := fd
               clear hvt hIt fd y0 y1 y2 y3 z0 z1)
            | (at_builtin; refine wplG_ints (by first | rfl | kernel_rfl) _ _ rfl wd.heap.size wd.heap.size _ _ _ L0 rfl rfl ?e0 ?e1 ?e2 ?e3 ?e4 ?e5 ?_
               case e0 => exact alloc_new _ _
               case e1 => exact Nat.le_refl _
               case e2 => simp
               case e3 => exact hLlH
               case e4 => exact InL.keep hId (Fr.alloc _ _ _)
               case e5 => have : L0.length = _ := hLlH; have : L0.length ≤ 512 := hL5; omega
               intro v5 w5 h5 f5
               have f5b : Fr (fun _ => False) wd w5 := (Fr.alloc _ _ _).same f5
               have f5H : Hidden (Fr (fun _ => False) wd w5) := f5b
               have f5c : Fr (fun _ => False) wc w5 := (show Fr (fun _ => False) wc wd from gd).same f5b
               obtain ⟨q0, q1, q2, q3⟩ := box4 (f5c.heap h16c (fun f => f))
               have h5H : Hidden (OwI w5 wd.heap.size v5 L0) := h5
               clear f5 f5b f5c h5)
            | (at_builtin; refine wplG_put (by first | rfl | kernel_rfl) _ _ rfl wd.heap.size v5 pv L0 PT rfl h5H rfl (PutR.keep hPd f5H) ?e6 ?e7 ?_
               case e6 => have : L0.length ≤ 512 := hL5; omega
               case e7 => exact (show Fr (fun _ => False) wd w5 from f5H).size
               intro v6 w6 h6 f6
               rw [show L0 ++ PT = x.st from hYH] at h6
               have f6b : Fr (fun _ => False) wd w6 := (show Fr (fun _ => False) wd w5 from f5H).over f6 (fun k e => (own_block (show OwI w5 wd.heap.size v5 L0 from h5H) k e).1)
               have f6c : Fr (fun _ => False) wc w6 := (show Fr (fun _ => False) wc wd from gd).same f6b
               obtain ⟨q0, q1, q2, q3⟩ := box4 (f6c.heap h16c (fun f => f))
               obtain ⟨vo, vc, rfl, hI6⟩ := OwI.inl h6
               have hI6H : Hidden (InL w6 vo vc x.st) := hI6
               have f6H : Hidden (Fr (fun _ => False) wd w6) := f6b
               clear f6 f6b f6c h6 hI6)
            | (go_at_call 11
               have kal := alike_any tq vo _ _ tc vc x.st x.st rfl rfl w6 ((show InL wd tq tc x.st from hItH).keep f6H) hI6H (by have : (x.st).length ≤ 512 := hX512; omega) (by have : (x.st).length ≤ 512 := hX512; omega)
               rw [decide_eq_true rfl] at kal
               refine kal.mono ?_
               rintro e w7 ⟨rfl, f7⟩
               have f8 : Fr (fun _ => False) wc w7 := ((show Fr (fun _ => False) wc wd from gd).same f6H).same f7
               obtain ⟨q0, q1, q2, q3⟩ := box4 (f8.heap h16c (fun f => f))
               obtain ⟨y0, y1, y2, y3⟩ := box4 (((show Fr (fun _ => False) wx wc from gc).same f8).heap h9H (fun f => f))
               have zz := ((show Fr (fun _ => False) wx wc from gc).same f8).heap h10H (fun f => f)
               have z0 : w7.cell? ⟨g10, 0, none⟩ = some (.slice b4 p.fns.length e4) := cell_of_row _ _ 0 _ _ _ zz
               have z1 : w7.cell? ⟨g10, 1, none⟩ = some (.slice b5 p.vars.length e5) := cell_of_row _ _ 1 _ _ _ zz
               have f8H : Hidden (Fr (fun _ => False) wc w7) := f8
               clear zz f7 f8 kal))
          go_upto_region 31 with (first
            | (go_at_call 9; refine (k3 w7 (Fr.same gc f8H)).mono ?_; rintro e wd2 ⟨vt2, rfl, hvt2, fd2⟩
               obtain ⟨tq2, tc2, rfl, hIt2⟩ := OwI.inl hvt2
               have hItH2 : Hidden (InL wd2 tq2 tc2 X2) := hIt2
               have gd2 : Hidden (Fr (fun _ => False) wc wd2) := (show Fr (fun _ => False) wc w7 from f8H).same fd2
               have hId2 : Hidden (InL wd2 _ sc s.st) := InL.keep hIc gd2
               clear hvt2 hIt2 fd2 y0 y1 y2 y3 z0 z1 q0 q1 q2 q3))
          go_upto_region 33 with (first
            | (at_builtin; refine wplG_ints (by first | rfl | kernel_rfl) _ _ rfl wd2.heap.size wd2.heap.size _ _ _ s.st rfl rfl ?e0 ?e1 ?e2 ?e3 ?e4 ?e5 ?_
               case e0 => exact alloc_new _ _
               case e1 => exact Nat.le_refl _
               case e2 => simp
               case e3 => rfl
               case e4 => exact InL.keep hId2 (Fr.alloc _ _ _)
               case e5 => have : s.st.length ≤ 512 := hlenH; omega
               intro v8 w8 h8 f8
               have f8b : Hidden (Fr (fun _ => False) wd2 w8) := (Fr.alloc _ _ _).same f8
               have h8H : Hidden (OwI w8 wd2.heap.size v8 s.st) := h8
               clear f8 h8)
            | (at_builtin; refine wplG_put (by first | rfl | kernel_rfl) _ _ rfl wd2.heap.size v8 _ s.st [1] rfl (OwI.keepN h8H (Fr.alloc _ _ _)) rfl (Or.inr ⟨_, 1, rfl, rfl, cell_of_row _ _ 0 _ _ _ (alloc_new _ _)⟩) ?e6 ?e7 ?_
               case e6 => have : s.st.length ≤ 512 := hlenH; omega
               case e7 => exact Nat.le_trans (show Fr (fun _ => False) wd2 w8 from f8b).size (by simp)
               intro v9 w9 h9' f9
               have f9b : Hidden (Fr (fun _ => False) wd2 w9) := ((show Fr (fun _ => False) wd2 w8 from f8b).same (Fr.alloc _ _ _)).over f9 (fun k e => (own_block (show OwI w8 wd2.heap.size v8 s.st from h8H) k e).1)
               rw [show s.st ++ [1] = X2 from hX2H] at h9'
               obtain ⟨vo2, vc2, rfl, hI9⟩ := OwI.inl h9'
               have hI9H : Hidden (InL w9 vo2 vc2 X2) := hI9
               clear f9 h9' hI9)
            | (go_at_call 11
               have kal := alike_any tq2 vo2 _ _ tc2 vc2 X2 X2 rfl rfl w9 (InL.keep hItH2 f9b) hI9H (by have : X2.length ≤ 512 := hX25; omega) (by have : X2.length ≤ 512 := hX25; omega)
               rw [decide_eq_true rfl] at kal
               refine kal.mono ?_
               rintro e w10 ⟨rfl, f10⟩
               have f11 : Fr (fun _ => False) wc w10 := ((show Fr (fun _ => False) wc wd2 from gd2).same f9b).same f10
               obtain ⟨q0, q1, q2, q3⟩ := box4 (f11.heap h16c (fun f => f))
               have f11H : Hidden (Fr (fun _ => False) wc w10) := f11
               clear f10 f11 kal))
          refine wp_region_grow (by kernel_rfl) (by kernel_rfl) ?_
          (repeat (first | (refine grow_op (v := ?_) ?_ ?_ ?_; rotate_left; (focus (first | exact wanted_none rfl | (go_simp; done))); (focus (intro w' hw'; have q0 := hw'.cellN q0; (go_simp; with_reducible rfl))); (intro a' ha; simp only [Act.put, List.setIfInBounds_toArray, List.set_cons_zero, List.set_cons_succ] at ha; subst ha)) | (refine grow_no ?_ ?_; (focus (first | (go_simp; done) | rfl)); (intro a' ha; simp only [Act.put, List.setIfInBounds_toArray, List.set_cons_zero, List.set_cons_succ] at ha; subst ha)))); refine grow_nil ?_; intro w1 k1
          go_wp2_with fail
          go_roundg (f.cd.length - (j + 1))
          case measure => have : gk = f.cd.length - j := hkkH; have : j < f.cd.length := hjlH; omega
          case rel => exact ⟨j + 1, (by first | rfl | (rw [hwj]; rfl)), by have : j < f.cd.length := hjlH; omega, rfl, ((show Fr (fun _ => False) W4 wc from gR).same f11H).same k1⟩
      · as_aux_lemma =>
          have hon : onT 16 = true := rfl
          obtain ⟨x, hx, hxst, hx15, hx16, hxtr⟩ := (show Law f p ⟨16, n, t, bb⟩ s A Bq from LH).nx hon
          have hxs : shpS f p ((j : Int) + 1) = some x := (show ∀ x, A = some x → _ from hnxH) x hx
          have hX512 : Hidden (x.st.length ≤ 512) := by have := shp_len f p ((j : Int) + 1); rw [hxs] at this; exact this
          have k2 : ∀ (W : World), Fr (fun _ => False) wx W → _ := fun W hW => (show ∀ (W : World) (m : Int), Fr (fun _ => False) wx W → _ from ksH) W ((j : Int) + 1) hW
          simp only [hxs, shL, shN, shB, Option.isSome_some] at k2
          obtain ⟨m, hm⟩ : ∃ m, m = s.st.length - TK := ⟨_, rfl⟩
          have hY : s.st.take m ++ PT = x.st := by rw [hm, show TK = _ from hTKH, show PT = _ from hPTH]; exact hxst.symm
          have hl5 : s.st.length ≤ 512 := hlenH
          have hl6 : TK ≤ s.st.length := hleH
          have hl7 : s.st.length ≤ sc := (show InL wc so sc s.st from hIc).1
          have hl8 : sc ≤ 9223372036854775807 := by have := (show InL wc so sc s.st from hIc).2.1; simpa [maxLen] using this
          have hsub : wrap64 ((s.st.length : Int) - (TK : Int)) = (m : Int) := wrap64_eq (by omega) (by omega) (by omega)
          have hsub2 : IntKind.i64.wrap ((s.st.length : Int) - (TK : Int)) = (m : Int) := wrapI_eq (by omega) (by omega) (by omega)
          have hm0 : (0 : Int) ≤ (m : Int) := by omega
          have hmc : (m : Int) ≤ (sc : Int) := by omega
          have hmc2 : m ≤ sc := by omega
          have hmH : Hidden (m ≤ s.st.length) := by show m ≤ _; omega
          have hN : x.tr.length + 1 = s.tr.length := hx16 rfl
          obtain ⟨hwn, hwn2⟩ := wrap_pred hN htr0
          clear hN
          obtain ⟨L0, hL0⟩ : ∃ L0, L0 = s.st.take m := ⟨_, rfl⟩
          rw [← hL0] at hY
          have hYH : Hidden (L0 ++ PT = x.st) := hY
          have hLl : L0.length = m := by rw [hL0, List.length_take]; omega
          have hLlH : Hidden (L0.length = m) := hLl
          have hL5 : Hidden (L0.length ≤ 512) := by show _ ≤ _; omega
          have hIL : Hidden (InL wc so sc L0) := by show InL _ _ _ _; rw [hL0]; exact InL.take hIc m
          rw [hon]
          have hsl := fun W => slice_to so s.st.length m sc hmc2 W
          clear hx hxst hx15 hx16 hxtr hxs hm hY hl5 hl6 hl7 hL0 hLl hmH hm0 hmc hmc2 hl8
          go_upto_region 21 with (first
            | (go_at_call 9; refine (k2 wc gc).mono ?_; rintro e wd ⟨vt, rfl, hvt, fd⟩
               obtain ⟨tq, tc, rfl, hIt⟩ := OwI.inl hvt
               replace q0 := fd.cellN q0; replace q1 := fd.cellN q1; replace q2 := fd.cellN q2; replace q3 := fd.cellN q3
               have hItH : Hidden (InL wd tq tc x.st) := hIt
               have hPd : Hidden (PutR wd pv PT) := PutR.keep hPH fd
               have hId : Hidden (InL wd _ _ L0) := InL.keep hIL fd
               have gd : Hidden (Fr (fun _ => False) wc wd) := fd
               clear hvt hIt fd y0 y1 y2 y3 z0 z1)
            | (at_builtin; refine wplG_ints (by first | rfl | kernel_rfl) _ _ rfl wd.heap.size wd.heap.size _ _ _ L0 rfl rfl ?e0 ?e1 ?e2 ?e3 ?e4 ?e5 ?_
               case e0 => exact alloc_new _ _
               case e1 => exact Nat.le_refl _
               case e2 => simp
               case e3 => exact hLlH
               case e4 => exact InL.keep hId (Fr.alloc _ _ _)
               case e5 => have : L0.length = _ := hLlH; have : L0.length ≤ 512 := hL5; omega
               intro v5 w5 h5 f5
               have f5b : Fr (fun _ => False) wd w5 := (Fr.alloc _ _ _).same f5
               have f5H : Hidden (Fr (fun _ => False) wd w5) := f5b
               have f5c : Fr (fun _ => False) wc w5 := (show Fr (fun _ => False) wc wd from gd).same f5b
               obtain ⟨q0, q1, q2, q3⟩ := box4 (f5c.heap h16c (fun f => f))
               have h5H : Hidden (OwI w5 wd.heap.size v5 L0) := h5
               clear f5 f5b f5c h5)
            | (at_builtin; refine wplG_put (by first | rfl | kernel_rfl) _ _ rfl wd.heap.size v5 pv L0 PT rfl h5H rfl (PutR.keep hPd f5H) ?e6 ?e7 ?_
               case e6 => have : L0.length ≤ 512 := hL5; omega
               case e7 => exact (show Fr (fun _ => False) wd w5 from f5H).size
               intro v6 w6 h6 f6
               rw [show L0 ++ PT = x.st from hYH] at h6
               have f6b : Fr (fun _ => False) wd w6 := (show Fr (fun _ => False) wd w5 from f5H).over f6 (fun k e => (own_block (show OwI w5 wd.heap.size v5 L0 from h5H) k e).1)
               have f6c : Fr (fun _ => False) wc w6 := (show Fr (fun _ => False) wc wd from gd).same f6b
               obtain ⟨q0, q1, q2, q3⟩ := box4 (f6c.heap h16c (fun f => f))
               obtain ⟨vo, vc, rfl, hI6⟩ := OwI.inl h6
               have hI6H : Hidden (InL w6 vo vc x.st) := hI6
               have f6H : Hidden (Fr (fun _ => False) wd w6) := f6b
               clear f6 f6b f6c h6 hI6)
            | (go_at_call 11
               have kal := alike_any tq vo _ _ tc vc x.st x.st rfl rfl w6 ((show InL wd tq tc x.st from hItH).keep f6H) hI6H (by have : (x.st).length ≤ 512 := hX512; omega) (by have : (x.st).length ≤ 512 := hX512; omega)
               rw [decide_eq_true rfl] at kal
               refine kal.mono ?_
               rintro e w7 ⟨rfl, f7⟩
               have f8 : Fr (fun _ => False) wc w7 := ((show Fr (fun _ => False) wc wd from gd).same f6H).same f7
               obtain ⟨q0, q1, q2, q3⟩ := box4 (f8.heap h16c (fun f => f))
               obtain ⟨y0, y1, y2, y3⟩ := box4 (((show Fr (fun _ => False) wx wc from gc).same f8).heap h9H (fun f => f))
               have zz := ((show Fr (fun _ => False) wx wc from gc).same f8).heap h10H (fun f => f)
               have z0 : w7.cell? ⟨g10, 0, none⟩ = some (.slice b4 p.fns.length e4) := cell_of_row _ _ 0 _ _ _ zz
               have z1 : w7.cell? ⟨g10, 1, none⟩ = some (.slice b5 p.vars.length e5) := cell_of_row _ _ 1 _ _ _ zz
               have f8H : Hidden (Fr (fun _ => False) wc w7) := f8
               clear zz f7 f8 kal))
          go_upto_region 33 with fail
          refine wp_region_grow (by kernel_rfl) (by kernel_rfl) ?_
          (repeat (first | (refine grow_op (v := ?_) ?_ ?_ ?_; rotate_left; (focus (first | exact wanted_none rfl | (go_simp; done))); (focus (intro w' hw'; have q0 := hw'.cellN q0; (go_simp; with_reducible rfl))); (intro a' ha; simp only [Act.put, List.setIfInBounds_toArray, List.set_cons_zero, List.set_cons_succ] at ha; subst ha)) | (refine grow_no ?_ ?_; (focus (first | (go_simp; done) | rfl)); (intro a' ha; simp only [Act.put, List.setIfInBounds_toArray, List.set_cons_zero, List.set_cons_succ] at ha; subst ha)))); refine grow_nil ?_; intro w1 k1
          go_wp2_with fail
          go_roundg (f.cd.length - (j + 1))
          case measure => have : gk = f.cd.length - j := hkkH; have : j < f.cd.length := hjlH; omega
          case rel => exact ⟨j + 1, (by first | rfl | (rw [hwj]; rfl)), by have : j < f.cd.length := hjlH; omega, rfl, ((show Fr (fun _ => False) W4 wc from gR).same f8H).same k1⟩
      · as_aux_lemma =>
          have hon : onT 8 = false := rfl
          have hfs : shpS f p n = some s := (show ∀ x, Bq = some x → _ from hfarH) _ ((show Law f p ⟨8, n, t, bb⟩ s A Bq from LH).j8 rfl)
          have k2 : ∀ (W : World), Fr (fun _ => False) wx W → _ := fun W hW => (show ∀ (W : World) (m : Int), Fr (fun _ => False) wx W → _ from ksH) W n hW
          simp only [hfs, shL, shN, shB, Option.isSome_some] at k2
          have hX512 : Hidden (s.st.length ≤ 512) := hlenH
          rw [hon]
          clear hfs
          go_upto_region 33 with (first
            | (go_at_call 9; refine (k2 wc gc).mono ?_; rintro e wd ⟨vt, rfl, hvt, fd⟩
               obtain ⟨tq, tc, rfl, hIt⟩ := OwI.inl hvt
               replace q0 := fd.cellN q0; replace q1 := fd.cellN q1; replace q2 := fd.cellN q2; replace q3 := fd.cellN q3
               have hItH : Hidden (InL wd tq tc s.st) := hIt
               have hPd : Hidden (PutR wd pv PT) := PutR.keep hPH fd
               have hId : Hidden (InL wd _ _ s.st) := InL.keep hIc fd
               have gd : Hidden (Fr (fun _ => False) wc wd) := fd
               clear hvt hIt fd y0 y1 y2 y3 z0 z1)
            | (go_at_call 11
               have kal := alike_any tq so _ _ tc sc s.st s.st rfl rfl wd hItH hId (by have : (s.st).length ≤ 512 := hX512; omega) (by have : (s.st).length ≤ 512 := hX512; omega)
               rw [decide_eq_true rfl] at kal
               refine kal.mono ?_
               rintro e w7 ⟨rfl, f7⟩
               have f8 : Fr (fun _ => False) wc w7 := (show Fr (fun _ => False) wc wd from gd).same f7
               obtain ⟨q0, q1, q2, q3⟩ := box4 (f8.heap h16c (fun f => f))
               obtain ⟨y0, y1, y2, y3⟩ := box4 (((show Fr (fun _ => False) wx wc from gc).same f8).heap h9H (fun f => f))
               have zz := ((show Fr (fun _ => False) wx wc from gc).same f8).heap h10H (fun f => f)
               have z0 : w7.cell? ⟨g10, 0, none⟩ = some (.slice b4 p.fns.length e4) := cell_of_row _ _ 0 _ _ _ zz
               have z1 : w7.cell? ⟨g10, 1, none⟩ = some (.slice b5 p.vars.length e5) := cell_of_row _ _ 1 _ _ _ zz
               have f8H : Hidden (Fr (fun _ => False) wc w7) := f8
               clear zz f7 f8 kal))
          refine wp_region_grow (by kernel_rfl) (by kernel_rfl) ?_
          (repeat (first | (refine grow_op (v := ?_) ?_ ?_ ?_; rotate_left; (focus (first | exact wanted_none rfl | (go_simp; done))); (focus (intro w' hw'; have q0 := hw'.cellN q0; (go_simp; with_reducible rfl))); (intro a' ha; simp only [Act.put, List.setIfInBounds_toArray, List.set_cons_zero, List.set_cons_succ] at ha; subst ha)) | (refine grow_no ?_ ?_; (focus (first | (go_simp; done) | rfl)); (intro a' ha; simp only [Act.put, List.setIfInBounds_toArray, List.set_cons_zero, List.set_cons_succ] at ha; subst ha)))); refine grow_nil ?_; intro w1 k1
          go_wp2_with fail
          go_roundg (f.cd.length - (j + 1))
          case measure => have : gk = f.cd.length - j := hkkH; have : j < f.cd.length := hjlH; omega
          case rel => exact ⟨j + 1, (by first | rfl | (rw [hwj]; rfl)), by have : j < f.cd.length := hjlH; omega, rfl, ((show Fr (fun _ => False) W4 wc from gR).same f8H).same k1⟩
      · as_aux_lemma =>
          have hon : onT 9 = false := rfl
          obtain ⟨r, hr3, hB⟩ := (show Law f p ⟨9, n, t, bb⟩ s A Bq from LH).j9 rfl
          have hfs : shpS f p n = some ⟨r, s.tr⟩ := (show ∀ x, Bq = some x → _ from hfarH) _ hB
          have k2 : ∀ (W : World), Fr (fun _ => False) wx W → _ := fun W hW => (show ∀ (W : World) (m : Int), Fr (fun _ => False) wx W → _ from ksH) W n hW
          simp only [hfs, shL, shN, shB, Option.isSome_some] at k2
          have hlr : s.st.length = r.length + 1 := by rw [hr3]; simp
          have hl5 : s.st.length ≤ 512 := hlenH
          have hl7 : s.st.length ≤ sc := (show InL wc so sc s.st from hIc).1
          have hl8 : sc ≤ 9223372036854775807 := by have := (show InL wc so sc s.st from hIc).2.1; simpa [maxLen] using this
          have hX512 : Hidden (r.length ≤ 512) := by show _ ≤ _; omega
          have hrt : r = s.st.take r.length := by rw [hr3]; simp
          have hIr : Hidden (InL wc so sc r) := by show InL _ _ _ _; rw [hrt]; exact InL.take hIc r.length
          obtain ⟨bs, os, rfl, hcs⟩ := (show InL wc so sc s.st from hIc).2.2.2.resolve_left (by intro e; rw [e] at hlr; simp at hlr)
          have hl3 := hcs r.length 3 (by rw [hr3]; simp)
          obtain ⟨m, hm⟩ : ∃ m, m = r.length := ⟨_, rfl⟩
          rw [← hm] at hlr hl3
          have hz1 : decide ((s.st.length : Int) = 0) = false := decide_eq_false (by omega)
          have hz2 : ((s.st.length : Int) == 0) = false := by rw [beq_eq_false_iff_ne]; omega
          have hz3 : decide (s.st.length = 0) = false := decide_eq_false (by omega)
          have hz4 : ¬ s.st.length = 0 := by omega
          have hz5 : ¬ s.st = [] := by intro e; rw [e] at hz4; simp at hz4
          have hsub : wrap64 ((s.st.length : Int) - 1) = (m : Int) := wrap64_eq (by omega) (by omega) (by omega)
          have hsub2 : IntKind.i64.wrap ((s.st.length : Int) - 1) = (m : Int) := wrapI_eq (by omega) (by omega) (by omega)
          have hsl := fun W => slice_to (some ⟨bs, os, none⟩) s.st.length m sc (by omega) W
          have hm0 : (0 : Int) ≤ (m : Int) := by omega
          have hmn : (m : Int) < (s.st.length : Int) := by omega
          have hmc : (m : Int) ≤ (sc : Int) := by omega
          have hmc2 : m ≤ sc := by omega
          have hmrH : Hidden (m = r.length) := hm
          have hl3H : Hidden (wc.cell? ⟨bs, os + m, none⟩ = some (ci 3)) := hl3
          rw [hon]
          clear hfs hr3 hB hrt hcs hm hlr hl5 hl7
          go_upto_region 27 with (first
            | (go_at_call 9; refine (k2 wc gc).mono ?_; rintro e wd ⟨vt, rfl, hvt, fd⟩
               obtain ⟨tq, tc, rfl, hIt⟩ := OwI.inl hvt
               replace q0 := fd.cellN q0; replace q1 := fd.cellN q1; replace q2 := fd.cellN q2; replace q3 := fd.cellN q3
               have hItH : Hidden (InL wd tq tc r) := hIt
               have hPd : Hidden (PutR wd pv PT) := PutR.keep hPH fd
               have hId : Hidden (InL wd _ _ s.st) := InL.keep hIc fd
               have gd : Hidden (Fr (fun _ => False) wc wd) := fd
               have hl3d := fd.cellN hl3H
               clear hl3 hvt hIt fd y0 y1 y2 y3 z0 z1))
          have hmr : m = r.length := hmrH
          subst hmr
          go_upto_region 33 with (first
            | (go_at_call 11
               have kal := alike_any tq (some ⟨bs, os, none⟩) _ _ tc sc r r rfl rfl wd hItH (InL.keep hIr gd) (by have : (r).length ≤ 512 := hX512; omega) (by have : (r).length ≤ 512 := hX512; omega)
               rw [decide_eq_true rfl] at kal
               refine kal.mono ?_
               rintro e w7 ⟨rfl, f7⟩
               have f8 : Fr (fun _ => False) wc w7 := (show Fr (fun _ => False) wc wd from gd).same f7
               obtain ⟨q0, q1, q2, q3⟩ := box4 (f8.heap h16c (fun f => f))
               obtain ⟨y0, y1, y2, y3⟩ := box4 (((show Fr (fun _ => False) wx wc from gc).same f8).heap h9H (fun f => f))
               have zz := ((show Fr (fun _ => False) wx wc from gc).same f8).heap h10H (fun f => f)
               have z0 : w7.cell? ⟨g10, 0, none⟩ = some (.slice b4 p.fns.length e4) := cell_of_row _ _ 0 _ _ _ zz
               have z1 : w7.cell? ⟨g10, 1, none⟩ = some (.slice b5 p.vars.length e5) := cell_of_row _ _ 1 _ _ _ zz
               have f8H : Hidden (Fr (fun _ => False) wc w7) := f8
               clear zz f7 f8 kal))
          refine wp_region_grow (by kernel_rfl) (by kernel_rfl) ?_
          (repeat (first | (refine grow_op (v := ?_) ?_ ?_ ?_; rotate_left; (focus (first | exact wanted_none rfl | (go_simp; done))); (focus (intro w' hw'; have q0 := hw'.cellN q0; (go_simp; with_reducible rfl))); (intro a' ha; simp only [Act.put, List.setIfInBounds_toArray, List.set_cons_zero, List.set_cons_succ] at ha; subst ha)) | (refine grow_no ?_ ?_; (focus (first | (go_simp; done) | rfl)); (intro a' ha; simp only [Act.put, List.setIfInBounds_toArray, List.set_cons_zero, List.set_cons_succ] at ha; subst ha)))); refine grow_nil ?_; intro w1 k1
          go_wp2_with fail
          go_roundg (f.cd.length - (j + 1))
          case measure => have : gk = f.cd.length - j := hkkH; have : j < f.cd.length := hjlH; omega
          case rel => exact ⟨j + 1, (by first | rfl | (rw [hwj]; rfl)), by have : j < f.cd.length := hjlH; omega, rfl, ((show Fr (fun _ => False) W4 wc from gR).same f8H).same k1⟩
      · as_aux_lemma =>
          have hon : onT 11 = false := rfl
          rw [hon]
          by_cases hres : f.sg.res = 0
          · rw [hres] at y1
            clear hres
            go_upto_region 33 with fail
            refine wp_region_grow (by kernel_rfl) (by kernel_rfl) ?_
            (repeat (first | (refine grow_op (v := ?_) ?_ ?_ ?_; rotate_left; (focus (first | exact wanted_none rfl | (go_simp; done))); (focus (intro w' hw'; have q0 := hw'.cellN q0; have y1 := hw'.cellN y1; (go_simp; with_reducible rfl))); (intro a' ha; simp only [Act.put, List.setIfInBounds_toArray, List.set_cons_zero, List.set_cons_succ] at ha; subst ha)) | (refine grow_no ?_ ?_; (focus (first | (go_simp; done) | rfl)); (intro a' ha; simp only [Act.put, List.setIfInBounds_toArray, List.set_cons_zero, List.set_cons_succ] at ha; subst ha)))); refine grow_nil ?_; intro w1 k1
            go_wp2_with fail
            go_roundg (f.cd.length - (j + 1))
            case measure => have : gk = f.cd.length - j := hkkH; have : j < f.cd.length := hjlH; omega
            case rel => exact ⟨j + 1, (by first | rfl | (rw [hwj]; rfl)), by have : j < f.cd.length := hjlH; omega, rfl, (show Fr (fun _ => False) W4 wc from gR).same k1⟩
          · obtain ⟨r, hr3⟩ := (show Law f p ⟨11, n, t, bb⟩ s A Bq from LH).r11 rfl hres
            have hlr : s.st.length = r.length + 1 := by rw [hr3]; simp
            have hl5 : s.st.length ≤ 512 := hlenH
            have hl7 : s.st.length ≤ sc := (show InL wc so sc s.st from hIc).1
            have hl8 : sc ≤ 9223372036854775807 := by have := (show InL wc so sc s.st from hIc).2.1; simpa [maxLen] using this
            obtain ⟨bs, os, rfl, hcs⟩ := (show InL wc so sc s.st from hIc).2.2.2.resolve_left (by intro e; rw [e] at hlr; simp at hlr)
            have hl3 := hcs r.length f.sg.res (by rw [hr3]; simp)
            obtain ⟨m, hm⟩ : ∃ m, m = r.length := ⟨_, rfl⟩
            rw [← hm] at hlr hl3
            have hb1 : (f.sg.res == 0) = false := by simpa using hres
            have hb2 : (f.sg.res != 0) = true := by simpa using hres
            have hz1 : decide ((s.st.length : Int) = 0) = false := decide_eq_false (by omega)
            have hz2 : ((s.st.length : Int) == 0) = false := by rw [beq_eq_false_iff_ne]; omega
            have hz3 : decide (s.st.length = 0) = false := decide_eq_false (by omega)
            have hz4 : ¬ s.st.length = 0 := by omega
            have hz5 : ¬ s.st = [] := by intro e; rw [e] at hz4; simp at hz4
            have hsub : wrap64 ((s.st.length : Int) - 1) = (m : Int) := wrap64_eq (by omega) (by omega) (by omega)
            have hsub2 : IntKind.i64.wrap ((s.st.length : Int) - 1) = (m : Int) := wrapI_eq (by omega) (by omega) (by omega)
            have hm0 : (0 : Int) ≤ (m : Int) := by omega
            have hmn : (m : Int) < (s.st.length : Int) := by omega
            clear hr3 hcs hm hlr hl5 hl7
            go_upto_region 33 with fail
            refine wp_region_grow (by kernel_rfl) (by kernel_rfl) ?_
            (repeat (first | (refine grow_op (v := ?_) ?_ ?_ ?_; rotate_left; (focus (first | exact wanted_none rfl | (go_simp; done))); (focus (intro w' hw'; have q0 := hw'.cellN q0; have y1 := hw'.cellN y1; have hl3 := hw'.cellN hl3; (go_simp; with_reducible rfl))); (intro a' ha; simp only [Act.put, List.setIfInBounds_toArray, List.set_cons_zero, List.set_cons_succ] at ha; subst ha)) | (refine grow_no ?_ ?_; (focus (first | (go_simp; done) | rfl)); (intro a' ha; simp only [Act.put, List.setIfInBounds_toArray, List.set_cons_zero, List.set_cons_succ] at ha; subst ha)))); refine grow_nil ?_; intro w1 k1
            go_wp2_with fail
            go_roundg (f.cd.length - (j + 1))
            case measure => have : gk = f.cd.length - j := hkkH; have : j < f.cd.length := hjlH; omega
            case rel => exact ⟨j + 1, (by first | rfl | (rw [hwj]; rfl)), by have : j < f.cd.length := hjlH; omega, rfl, (show Fr (fun _ => False) W4 wc from gR).same k1⟩
      · as_aux_lemma =>
          have hon : onT 13 = false := rfl
          rw [hon]
          go_upto_region 33 with fail
          refine wp_region_grow (by kernel_rfl) (by kernel_rfl) ?_
          (repeat (first | (refine grow_op (v := ?_) ?_ ?_ ?_; rotate_left; (focus (first | exact wanted_none rfl | (go_simp; done))); (focus (intro w' hw'; have q0 := hw'.cellN q0; (go_simp; with_reducible rfl))); (intro a' ha; simp only [Act.put, List.setIfInBounds_toArray, List.set_cons_zero, List.set_cons_succ] at ha; subst ha)) | (refine grow_no ?_ ?_; (focus (first | (go_simp; done) | rfl)); (intro a' ha; simp only [Act.put, List.setIfInBounds_toArray, List.set_cons_zero, List.set_cons_succ] at ha; subst ha)))); refine grow_nil ?_; intro w1 k1
          go_wp2_with fail
          go_roundg (f.cd.length - (j + 1))
          case measure => have : gk = f.cd.length - j := hkkH; have : j < f.cd.length := hjlH; omega
          case rel => exact ⟨j + 1, (by first | rfl | (rw [hwj]; rfl)), by have : j < f.cd.length := hjlH; omega, rfl, (show Fr (fun _ => False) W4 wc from gR).same k1⟩
      · as_aux_lemma =>
          obtain ⟨x, hx, hxst, hx15, hx16, hxtr⟩ := (show Law f p ⟨op, n, t, bb⟩ s A Bq from LH).nx hon
          have hxs : shpS f p ((j : Int) + 1) = some x := (show ∀ x, A = some x → _ from hnxH) x hx
          have hX512 : Hidden (x.st.length ≤ 512) := by have := shp_len f p ((j : Int) + 1); rw [hxs] at this; exact this
          have k2 : ∀ (W : World), Fr (fun _ => False) wx W → _ := fun W hW => (show ∀ (W : World) (m : Int), Fr (fun _ => False) wx W → _ from ksH) W ((j : Int) + 1) hW
          simp only [hxs, shL, shN, shB, Option.isSome_some] at k2
          obtain ⟨m, hm⟩ : ∃ m, m = s.st.length - TK := ⟨_, rfl⟩
          have hY : s.st.take m ++ PT = x.st := by rw [hm, show TK = _ from hTKH, show PT = _ from hPTH]; exact hxst.symm
          have hl5 : s.st.length ≤ 512 := hlenH
          have hl6 : TK ≤ s.st.length := hleH
          have hl7 : s.st.length ≤ sc := (show InL wc so sc s.st from hIc).1
          have hl8 : sc ≤ 9223372036854775807 := by have := (show InL wc so sc s.st from hIc).2.1; simpa [maxLen] using this
          have hsub : wrap64 ((s.st.length : Int) - (TK : Int)) = (m : Int) := wrap64_eq (by omega) (by omega) (by omega)
          have hsub2 : IntKind.i64.wrap ((s.st.length : Int) - (TK : Int)) = (m : Int) := wrapI_eq (by omega) (by omega) (by omega)
          have hm0 : (0 : Int) ≤ (m : Int) := by omega
          have hmc : (m : Int) ≤ (sc : Int) := by omega
          have hmc2 : m ≤ sc := by omega
          have hmH : Hidden (m ≤ s.st.length) := by show m ≤ _; omega
          have n15a : (op == 15) = false := by simpa using n15
          have n15b : (op != 15) = true := by simpa using n15
          have n15c : decide (op = 15) = false := by simpa using n15
          have n16a : (op == 16) = false := by simpa using n16
          have n16b : (op != 16) = true := by simpa using n16
          have n16c : decide (op = 16) = false := by simpa using n16
          have n8a : (op == 8) = false := by simpa using n8
          have n8b : (op != 8) = true := by simpa using n8
          have n8c : decide (op = 8) = false := by simpa using n8
          have n9a : (op == 9) = false := by simpa using n9
          have n9b : (op != 9) = true := by simpa using n9
          have n9c : decide (op = 9) = false := by simpa using n9
          have n11a : (op == 11) = false := by simpa using n11
          have n11b : (op != 11) = true := by simpa using n11
          have n11c : decide (op = 11) = false := by simpa using n11
          have hN : x.tr.length = s.tr.length := hxtr n15 n16
          rw [hN] at k2
          clear hN
          obtain ⟨L0, hL0⟩ : ∃ L0, L0 = s.st.take m := ⟨_, rfl⟩
          rw [← hL0] at hY
          have hYH : Hidden (L0 ++ PT = x.st) := hY
          have hLl : L0.length = m := by rw [hL0, List.length_take]; omega
          have hLlH : Hidden (L0.length = m) := hLl
          have hL5 : Hidden (L0.length ≤ 512) := by show _ ≤ _; omega
          have hIL : Hidden (InL wc so sc L0) := by show InL _ _ _ _; rw [hL0]; exact InL.take hIc m
          rw [hon]
          have hsl := fun W => slice_to so s.st.length m sc hmc2 W
          clear hx hxst hx15 hx16 hxtr hxs hm hY hl5 hl6 hl7 hL0 hLl hmH hm0 hmc hmc2 hl8
          go_upto_region 21 with (first
            | (go_at_call 9; refine (k2 wc gc).mono ?_; rintro e wd ⟨vt, rfl, hvt, fd⟩
               obtain ⟨tq, tc, rfl, hIt⟩ := OwI.inl hvt
               replace q0 := fd.cellN q0; replace q1 := fd.cellN q1; replace q2 := fd.cellN q2; replace q3 := fd.cellN q3
               have hItH : Hidden (InL wd tq tc x.st) := hIt
               have hPd : Hidden (PutR wd pv PT) := PutR.keep hPH fd
               have hId : Hidden (InL wd _ _ L0) := InL.keep hIL fd
               have gd : Hidden (Fr (fun _ => False) wc wd) := fd
               clear hvt hIt fd y0 y1 y2 y3 z0 z1)
            | (at_builtin; refine wplG_ints (by first | rfl | kernel_rfl) _ _ rfl wd.heap.size wd.heap.size _ _ _ L0 rfl rfl ?e0 ?e1 ?e2 ?e3 ?e4 ?e5 ?_
               case e0 => exact alloc_new _ _
               case e1 => exact Nat.le_refl _
               case e2 => simp
               case e3 => exact hLlH
               case e4 => exact InL.keep hId (Fr.alloc _ _ _)
               case e5 => have : L0.length = _ := hLlH; have : L0.length ≤ 512 := hL5; omega
               intro v5 w5 h5 f5
               have f5b : Fr (fun _ => False) wd w5 := (Fr.alloc _ _ _).same f5
               have f5H : Hidden (Fr (fun _ => False) wd w5) := f5b
               have f5c : Fr (fun _ => False) wc w5 := (show Fr (fun _ => False) wc wd from gd).same f5b
               obtain ⟨q0, q1, q2, q3⟩ := box4 (f5c.heap h16c (fun f => f))
               have h5H : Hidden (OwI w5 wd.heap.size v5 L0) := h5
               clear f5 f5b f5c h5)
            | (at_builtin; refine wplG_put (by first | rfl | kernel_rfl) _ _ rfl wd.heap.size v5 pv L0 PT rfl h5H rfl (PutR.keep hPd f5H) ?e6 ?e7 ?_
               case e6 => have : L0.length ≤ 512 := hL5; omega
               case e7 => exact (show Fr (fun _ => False) wd w5 from f5H).size
               intro v6 w6 h6 f6
               rw [show L0 ++ PT = x.st from hYH] at h6
               have f6b : Fr (fun _ => False) wd w6 := (show Fr (fun _ => False) wd w5 from f5H).over f6 (fun k e => (own_block (show OwI w5 wd.heap.size v5 L0 from h5H) k e).1)
               have f6c : Fr (fun _ => False) wc w6 := (show Fr (fun _ => False) wc wd from gd).same f6b
               obtain ⟨q0, q1, q2, q3⟩ := box4 (f6c.heap h16c (fun f => f))
               obtain ⟨vo, vc, rfl, hI6⟩ := OwI.inl h6
               have hI6H : Hidden (InL w6 vo vc x.st) := hI6
               have f6H : Hidden (Fr (fun _ => False) wd w6) := f6b
               clear f6 f6b f6c h6 hI6)
            | (go_at_call 11
               have kal := alike_any tq vo _ _ tc vc x.st x.st rfl rfl w6 ((show InL wd tq tc x.st from hItH).keep f6H) hI6H (by have : (x.st).length ≤ 512 := hX512; omega) (by have : (x.st).length ≤ 512 := hX512; omega)
               rw [decide_eq_true rfl] at kal
               refine kal.mono ?_
               rintro e w7 ⟨rfl, f7⟩
               have f8 : Fr (fun _ => False) wc w7 := ((show Fr (fun _ => False) wc wd from gd).same f6H).same f7
               obtain ⟨q0, q1, q2, q3⟩ := box4 (f8.heap h16c (fun f => f))
               obtain ⟨y0, y1, y2, y3⟩ := box4 (((show Fr (fun _ => False) wx wc from gc).same f8).heap h9H (fun f => f))
               have zz := ((show Fr (fun _ => False) wx wc from gc).same f8).heap h10H (fun f => f)
               have z0 : w7.cell? ⟨g10, 0, none⟩ = some (.slice b4 p.fns.length e4) := cell_of_row _ _ 0 _ _ _ zz
               have z1 : w7.cell? ⟨g10, 1, none⟩ = some (.slice b5 p.vars.length e5) := cell_of_row _ _ 1 _ _ _ zz
               have f8H : Hidden (Fr (fun _ => False) wc w7) := f8
               clear zz f7 f8 kal))
          go_upto_region 33 with fail
          refine wp_region_grow (by kernel_rfl) (by kernel_rfl) ?_
          (repeat (first | (refine grow_op (v := ?_) ?_ ?_ ?_; rotate_left; (focus (first | exact wanted_none rfl | (go_simp; done))); (focus (intro w' hw'; have q0 := hw'.cellN q0; (go_simp; with_reducible rfl))); (intro a' ha; simp only [Act.put, List.setIfInBounds_toArray, List.set_cons_zero, List.set_cons_succ] at ha; subst ha)) | (refine grow_no ?_ ?_; (focus (first | (go_simp; done) | rfl)); (intro a' ha; simp only [Act.put, List.setIfInBounds_toArray, List.set_cons_zero, List.set_cons_succ] at ha; subst ha)))); refine grow_nil ?_; intro w1 k1
          go_wp2_with fail
          go_roundg (f.cd.length - (j + 1))
          case measure => have : gk = f.cd.length - j := hkkH; have : j < f.cd.length := hjlH; omega
          case rel => exact ⟨j + 1, (by first | rfl | (rw [hwj]; rfl)), by have : j < f.cd.length := hjlH; omega, rfl, ((show Fr (fun _ => False) W4 wc from gR).same f8H).same k1⟩
end Go.Proofs.YtphpmaimgndjmaaDoor.Cd
namespace Go.Proofs.YtphpmaimgndjmaaDoor.codeOneShape
open Go.RowKit Ty Cd
theorem walk (v : Value) (f : Fu) (u : Value) (p : Fm) (W : World) (hf : FnA W v f) (hp : FmA W u p) (ht : F.Tab W) : Calls Tryd.prog 3 #[v, u] W fun e w' => e = .returned (.bool true) ∧ Fr (fun _ => False) W w' := by
  obtain ⟨a0, a2, a3, c0, c2, c3, rfl, h0, h2, h3, b0, b2, b3, ok⟩ := hf
  obtain ⟨a4, a5, c4, c5, rfl, h4, h5, b4, b5, hps⟩ := hp
  exact one_walk f p a0 a2 a3 a4 a5 c0 c2 c3 c4 c5 W h0 h2 h3 h4 h5 b0 b2 b3 b4 b5 hps ok ht
end Go.Proofs.YtphpmaimgndjmaaDoor.codeOneShape
