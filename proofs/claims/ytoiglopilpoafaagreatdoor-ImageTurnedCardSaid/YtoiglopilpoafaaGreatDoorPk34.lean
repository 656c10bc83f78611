/- Texts of ours, in one. -/
import Derived.Test.YtoiglopilpoafaaGreatDoorPk32
import Derived.Test.YtoiglopilpoafaaGreatDoorImFr
import Derived.Test.YtoiglopilpoafaaGreatDoorPk31
import Derived.Test.YtoiglopilpoafaaGreatDoorPk13
namespace Go.Proofs.YtoiglopilpoafaaGreatDoor.Im
open Go.RowKit Ty Cd
set_option linter.unusedSimpArgs false
set_option linter.unusedVariables false
set_option maxRecDepth 20000

theorem drop_cons {α : Type} {l : List α} {j : Nat} {x : α} (h : l[j]? = some x) : l.drop j = x :: l.drop (j + 1) := by
  obtain ⟨hj, e⟩ := List.getElem?_eq_some_iff.1 h
  rw [← e]
  exact List.drop_eq_getElem_cons hj
set_option maxHeartbeats 8000000 in
theorem right_any (i : Ig) (ok : OkG i) (va fa : Option Addr) (vc fc nv nf : Nat) (hnv : i.vars.length = nv) (hnf : i.fns.length = nf) (w : World) (h : IgA w i va fa vc fc) (ht : F.Tab w) :
    Calls Tryz.prog 7 #[.agg #[.slice va nv vc, .slice fa nf fc, ci i.mn]] w fun e w' => e = .returned (ci (rightG i)) ∧ Fr (fun _ => False) w w' := by
  obtain ⟨V, hV⟩ : ∃ V, V = w.alloc (.cells #[.slice va nv vc, .slice fa nf fc, ci i.mn] 28 (0, 0)) := ⟨_, rfl⟩
  have fV : Fr (fun _ => False) w V := by rw [hV]; exact Fr.alloc _ _ _
  have xV : V.heap[w.heap.size]? = some (.cells #[.slice va nv vc, .slice fa nf fc, ci i.mn] 28 (0, 0)) := by rw [hV]; exact alloc_new _ _
  obtain ⟨z0, z1, z2⟩ := box3 xV
  have hcv : nv ≤ vc := by rw [← hnv]; exact h.1.1
  have hcvm : vc ≤ 9223372036854775807 := by have := h.1.2.1; simpa [maxLen] using this
  have hcf : nf ≤ fc := by rw [← hnf]; exact h.2.1
  have hcfm : fc ≤ 9223372036854775807 := by have := h.2.2.1; simpa [maxLen] using this
  unfold rightG
  rw [hnv, hnf]
  have hVH : Hidden (V = _) := hV
  have fVH : Hidden (Fr (fun _ => False) w V) := fV
  by_cases h1 : 2048 < nv ∨ 2048 < nf
  · rw [if_pos h1]
    generalize i.mn = mn at *
    by_cases h2 : 2048 < nv
    · have b1 : decide ((2048 : Int) < (nv : Int)) = true := by simp; omega
      clear h1 h2 h ok hnv hnf hV fV xV
      go_enter Tryz.func7, Tryz.ntmps7
      go_upto_region 1 with fail
      rw [← (show V = _ from hVH)]
      clear hVH
      go_wp2_with fail
      go_ret
      exact ⟨rfl, fVH⟩
    · have b1 : decide ((2048 : Int) < (nv : Int)) = false := by simp; omega
      have b2 : decide ((2048 : Int) < (nf : Int)) = true := by simp; omega
      clear h1 h2 h ok hnv hnf hV fV xV
      go_enter Tryz.func7, Tryz.ntmps7
      go_upto_region 1 with fail
      rw [← (show V = _ from hVH)]
      clear hVH
      go_wp2_with fail
      go_ret
      exact ⟨rfl, fVH⟩
  rw [if_neg h1]
  have b1 : decide ((2048 : Int) < (nv : Int)) = false := by simp; omega
  have b2 : decide ((2048 : Int) < (nf : Int)) = false := by simp; omega
  have kw := wrongs_any va nv vc i.vars hnv ok.bits V (h.1.keep fV)
  have kb := fun X (hX : Fr (fun _ => False) V X) => begins_any i.vars i.fns i.mn va fa vc fc nv nf hnf X ((h.2.keep fV).keep hX)
  have kf := fun X (hX : Fr (fun _ => False) V X) => frameI_any i va fa vc fc nv nf hnv hnf X ((h.keep fV).keep hX) (by omega) (by omega) ok.ps
  have hFLH : Hidden (FL V fa fc i.fns) := h.2.keep fV
  have hokH : Hidden (OkG i) := ok
  have hnfH : Hidden (i.fns.length = nf) := hnf
  have hnvH : Hidden (i.vars.length = nv) := hnv
  have htH : Hidden (F.Tab V) := tab_fr ht fV
  obtain ⟨vars, fns, mn⟩ := i
  simp only [] at *
  generalize hb0 : beginsI ⟨vars, fns, mn⟩ = bg at *
  generalize hv0 : (vars.all fun v => rightV v.1 v.2) = vg at *
  have xVH : Hidden (V.heap[w.heap.size]? = some (.cells #[.slice va nv vc, .slice fa nf fc, ci mn] 28 (0, 0))) := xV
  generalize hG : w.heap.size = G at *
  clear hV fV xV h ok hnv hnf ht hb0 hv0
  by_cases h2 : vg = false ∨ bg = false
  · rw [if_pos h2]
    clear kf
    by_cases h3 : vg = false
    · subst h3
      clear h1 h2 kb
      go_enter Tryz.func7, Tryz.ntmps7
      go_upto_region 1 with fail
      rw [← (show V = _ from hVH)]
      clear hVH
      go_wp2_with (go_at_call 14; refine kw.mono ?_; rintro e w1 ⟨rfl, f1⟩; have f1H : Hidden (Fr (fun _ => False) V w1) := f1; clear f1)
      go_ret
      exact ⟨rfl, (show Fr (fun _ => False) w V from fVH).same f1H⟩
    · have h3 : vg = true := by simpa using h3
      subst h3
      obtain rfl : bg = false := by simpa using h2
      clear h1 h2
      go_enter Tryz.func7, Tryz.ntmps7
      go_upto_region 1 with fail
      rw [← (show V = _ from hVH)]
      clear hVH
      go_wp2_with (first
        | (go_at_call 14; refine kw.mono ?_; rintro e w1 ⟨rfl, f1⟩; have f1H : Hidden (Fr (fun _ => False) V w1) := f1
           obtain ⟨y0, y1, y2⟩ := box3 (f1.heap (show V.heap[G]? = _ from xVH) (fun f => f))
           have kb1 := kb w1 f1
           clear f1 kb)
        | (go_at_call 16; refine kb1.mono ?_; rintro e w2 ⟨rfl, f2⟩; have f2H : Hidden (Fr (fun _ => False) w1 w2) := f2; clear f2))
      go_ret
      exact ⟨rfl, ((show Fr (fun _ => False) w V from fVH).same f1H).same f2H⟩
  rw [if_neg h2]
  simp only [not_or, Bool.not_eq_false] at h2
  obtain ⟨rfl, rfl⟩ := h2
  obtain ⟨p, hp⟩ : ∃ p, p = frI ⟨vars, fns, mn⟩ := ⟨_, rfl⟩
  obtain ⟨R, hR⟩ : ∃ R, R = firstE (frI ⟨vars, fns, mn⟩) fns := ⟨_, rfl⟩
  rw [← hR]
  rw [← hp] at hR kf
  have hpf : Hidden (p.fns.length = nf ∧ p.vars.length = nv ∧ ∀ g ∈ p.fns, g.ps.length ≤ 17592186044416) := by
    show _ ∧ _ ∧ _
    rw [hp]
    have ok := (show OkG ⟨vars, fns, mn⟩ from hokH)
    refine ⟨by show (fns.map (·.sg)).length = nf; rw [List.length_map]; exact hnfH, by show (vars.map (·.1)).length = nv; rw [List.length_map]; exact hnvH, fun g hg => ?_⟩
    obtain ⟨f, hf, rfl⟩ := List.mem_map.1 (show g ∈ fns.map (·.sg) from hg)
    exact ok.ps f hf
  have hRH : Hidden (R = firstE p fns) := hR
  clear hR hp h1
  go_enter Tryz.func7, Tryz.ntmps7
  go_upto_region 1 with fail
  rw [← (show V = _ from hVH)]
  clear hVH
  go_upto_region 6 with (first
    | (go_at_call 14; refine kw.mono ?_; rintro e w1 ⟨rfl, f1⟩; have f1H : Hidden (Fr (fun _ => False) V w1) := f1
       obtain ⟨y0, y1, y2⟩ := box3 (f1.heap (show V.heap[G]? = _ from xVH) (fun f => f))
       have kb1 := kb w1 f1
       clear f1 kb kw)
    | (go_at_call 16; refine kb1.mono ?_; rintro e w2 ⟨rfl, f2⟩
       have g2 : Fr (fun _ => False) V w2 := (show Fr (fun _ => False) V w1 from f1H).same f2
       obtain ⟨s0, s1, s2⟩ := box3 (g2.heap (show V.heap[G]? = _ from xVH) (fun f => f))
       have kf1 := kf w2 g2
       have g2H : Hidden (Fr (fun _ => False) V w2) := g2
       clear f2 g2 kf kb1 y0 y1 y2)
    | (go_at_call 17; refine kf1.mono ?_; rintro e w3 ⟨v, rfl, ⟨v4, v5, rfl, hs4, hs5⟩, f3⟩
       obtain ⟨a4, c4, hv4, hS4⟩ := hs4.sgl
       obtain ⟨a5, c5, hv5, hS5⟩ := hs5.inl
       rw [(show p.fns.length = nf ∧ _ from hpf).1] at hv4
       rw [(show _ ∧ p.vars.length = nv ∧ _ from hpf).2.1] at hv5
       subst hv4
       subst hv5
       have hS4H : Hidden (SgL w3 a4 c4 p.fns) := hS4
       have hS5H : Hidden (InL w3 a5 c5 p.vars) := hS5
       have g3H : Hidden (Fr (fun _ => False) V w3) := (show Fr (fun _ => False) V w2 from g2H).same f3
       clear hs4 hs5 hS4 hS5 f3 kf1 s0 s1 s2))
  obtain ⟨Z, hZ⟩ : ∃ Z, Z = w3.alloc (.cells #[.slice a4 nf c4, .slice a5 nv c5] 64 (0, 0)) := ⟨_, rfl⟩
  have fZ : Fr (fun _ => False) w3 Z := by rw [hZ]; exact Fr.alloc _ _ _
  have xZ : Z.heap[w3.heap.size]? = some (.cells #[.slice a4 nf c4, .slice a5 nv c5] 64 (0, 0)) := by rw [hZ]; exact alloc_new _ _
  have fVZ : Fr (fun _ => False) V Z := (show Fr (fun _ => False) V w3 from g3H).same fZ
  obtain ⟨s0, s1, s2⟩ := box3 (fVZ.heap (show V.heap[G]? = _ from xVH) (fun f => f))
  rw [← hZ]
  generalize hQ : w3.heap.size = Q at *
  have xZH : Hidden (Z.heap[Q]? = some (.cells #[.slice a4 nf c4, .slice a5 nv c5] 64 (0, 0))) := xZ
  have hS4Z : Hidden (SgL Z a4 c4 p.fns) := (show SgL w3 a4 c4 p.fns from hS4H).keep fZ
  have hS5Z : Hidden (InL Z a5 c5 p.vars) := (show InL w3 a5 c5 p.vars from hS5H).keep fZ
  have fVZH : Hidden (Fr (fun _ => False) V Z) := fVZ
  clear hZ fZ xZ fVZ hQ
  go_wp2_with fail
  go_loopg [6, 7, 33] nf (fun k _ _ iv wr => ∃ j : Nat, iv = .int .i64 (j : Int) ∧ j ≤ nf ∧ k = nf - j ∧ Fr (fun _ => False) Z wr ∧ R = firstE p (fns.drop j))
  case atStart => exact ⟨0, rfl, by omega, rfl, Fr.refl _ _, hRH⟩
  case round =>
    obtain ⟨j, rfl, hj, hk, hfr, hr⟩ := hrel
    have hkH : Hidden (gk = nf - j) := hk
    have hfrH : Hidden (Fr (fun _ => False) Z wr) := hfr
    clear hk
    by_cases hjl : j < nf
    · obtain ⟨x, hx⟩ : ∃ x, fns[j]? = some x := ⟨_, List.getElem?_eq_getElem (by have : fns.length = nf := hnfH; omega)⟩
      rw [drop_cons hx] at hr
      unfold firstE at hr
      have fw : Fr (fun _ => False) V wr := (show Fr (fun _ => False) V Z from fVZH).same hfr
      obtain ⟨b, off, rfl⟩ := fl_some (show FL V fa fc fns from hFLH) hx
      obtain ⟨xx, hP, q0, q1, q2, q3⟩ := fl_at (show FL V (some ⟨b, off, none⟩) fc fns from hFLH) hx
      replace q0 := fw.cellN q0
      replace q1 := fw.cellN q1
      replace q2 := fw.cellN q2
      replace q3 := fw.cellN q3
      obtain ⟨⟨a0, p0⟩, ⟨a2, p2⟩, ⟨a3, p3⟩⟩ := xx
      obtain ⟨hI0, hI2, hI3⟩ := hP
      simp only [] at q0 q1 q2 q3 hI0 hI2 hI3
      have hxm := List.mem_of_getElem? hx
      obtain ⟨t0, t1⟩ := Cd.box2 (hfr.heap (show Z.heap[Q]? = _ from xZH) (fun f => f))
      have kv := fun X (hX : Fr (fun _ => False) wr X) => verify_any x p a0 a2 a3 a4 a5 p0 p2 p3 c4 c5 _ _ _ nf nv rfl rfl rfl (show p.fns.length = nf ∧ _ from hpf).1 (show _ ∧ p.vars.length = nv ∧ _ from hpf).2.1 X
        ⟨(hI0.keep fw).keep hX, (hI2.keep fw).keep hX, (hI3.keep fw).keep hX, ((show SgL Z a4 c4 p.fns from hS4Z).keep hfr).keep hX, ((show InL Z a5 c5 p.vars from hS5Z).keep hfr).keep hX,
          (show OkG ⟨vars, fns, mn⟩ from hokH).okI x hxm, (show _ ∧ _ ∧ ∀ g ∈ p.fns, g.ps.length ≤ 17592186044416 from hpf).2.2, tab_fr htH (fw.same hX)⟩
      generalize x.sg.ps.length = n0 at *
      generalize x.loc.length = n2 at *
      generalize x.cd.length = n3 at *
      generalize x.sg.res = xr at *
      generalize verS x p = VR at *
      obtain ⟨v1, v2⟩ := VR
      simp only [] at hr kv
      have hjn : (j : Int) < (nf : Int) := by omega
      obtain ⟨Y, hY⟩ : ∃ Y, Y = wr.alloc (.cells #[.slice a0 n0 p0, ci xr, .slice a2 n2 p2, .slice a3 n3 p3] 46 (0, 0)) := ⟨_, rfl⟩
      have fY : Fr (fun _ => False) wr Y := by rw [hY]; exact Fr.alloc _ _ _
      have xY : Y.heap[wr.heap.size]? = some (.cells #[.slice a0 n0 p0, ci xr, .slice a2 n2 p2, .slice a3 n3 p3] 46 (0, 0)) := by rw [hY]; exact alloc_new _ _
      obtain ⟨e0, e1, e2, e3⟩ := box4 xY
      replace t0 := fY.cellN t0
      replace t1 := fY.cellN t1
      replace kv := kv Y fY
      have fYH : Hidden (Fr (fun _ => False) wr Y) := fY
      have hYH : Hidden (Y = _) := hY
      generalize hE : wr.heap.size = E at *
      have hEH : Hidden (wr.heap.size = E) := hE
      clear hx hI0 hI2 hI3 hxm fw hfr hjl hY fY xY hE
      by_cases hv : v2 = 0
      · subst hv
        simp only [ne_eq, not_true_eq_false, if_false] at hr
        have hrH : Hidden (R = firstE p (fns.drop (j + 1))) := hr
        clear hr
        go_upto_region 9 with fail
        rw [← (show Y = _ from hYH), show wr.heap.size = E from hEH]
        clear hYH hEH q0 q1 q2 q3
        go_wp2_with (go_at_call 18; refine kv.mono ?_; rintro e w6 ⟨rfl, f6⟩
                     have f6H : Hidden (Fr (fun _ => False) wr w6) := (show Fr (fun _ => False) wr Y from fYH).same f6
                     clear f6)
        go_roundg (nf - (j + 1))
        case measure => have : gk = nf - j := hkH; omega
        case rel => exact ⟨j + 1, by go_num, by omega, rfl, (show Fr (fun _ => False) Z wr from hfrH).same f6H, hrH⟩
      · rw [if_pos hv] at hr
        have hb : (v2 != 0) = true := by simpa using hv
        have hrH : Hidden (R = v2) := hr
        clear hr hv
        go_upto_region 9 with fail
        rw [← (show Y = _ from hYH), show wr.heap.size = E from hEH]
        clear hYH hEH q0 q1 q2 q3
        go_wp2_with (go_at_call 18; refine kv.mono ?_; rintro e w6 ⟨rfl, f6⟩
                     have f6H : Hidden (Fr (fun _ => False) wr w6) := (show Fr (fun _ => False) wr Y from fYH).same f6
                     clear f6)
        go_ret
        rw [show R = v2 from hrH]
        exact ⟨rfl, (((show Fr (fun _ => False) w V from fVH).same fVZH).same hfrH).same f6H⟩
    · obtain rfl : j = nf := by omega
      rw [List.drop_eq_nil_of_le (by have : fns.length = j := hnfH; omega)] at hr
      unfold firstE at hr
      have hrH : Hidden (R = 0) := hr
      have hjn : decide ((j : Int) < (j : Int)) = false := by simp
      clear hr hfr hjl
      go_wp2_with fail
      go_ret
      rw [show R = 0 from hrH]
      exact ⟨rfl, ((show Fr (fun _ => False) w V from fVH).same fVZH).same hfrH⟩
end Go.Proofs.YtoiglopilpoafaaGreatDoor.Im

namespace Go.Proofs.YtoiglopilpoafaaGreatDoor.Im
open Go.RowKit Ty Cd
set_option linter.unusedSimpArgs false
set_option linter.unusedVariables false
set_option maxRecDepth 20000

/-- A writer of the call's own; all that lay ahead of W is as it was there; of the blocks of V those of K are as they were. -/
def WB (W V : World) (K : Nat → Prop) (pv : Value) (w : World) (bs : Bs) (n : Nat) : Prop :=
  ∃ g, Wi.WrO pv w bs g n ∧ Fr (fun _ => False) W w ∧ (∀ k, Wi.pblk pv = some k ∨ g = some k → W.heap.size ≤ k ∧ ¬ K k) ∧ Fr (fun k => ¬ K k) V w ∧ ∀ k, K k → k < V.heap.size
theorem wb_to {W V w w' : World} {K : Nat → Prop} {pv : Value} {bs' : Bs} {n : Nat} {g : Option Nat} (f : Fr (fun _ => False) W w) (d : ∀ k, Wi.pblk pv = some k ∨ g = some k → W.heap.size ≤ k ∧ ¬ K k) (fv : Fr (fun k => ¬ K k) V w) (hK : ∀ k, K k → k < V.heap.size)
    (h : Wi.WTo pv w g w' bs' n) : WB W V K pv w' bs' n := by
  obtain ⟨g', a', f', hg⟩ := h
  have f2 := of_wi f'
  refine ⟨g', a', f.over f2 (fun k hk => (d k hk).1), fun k hk => ?_, fv.same (f2.mono fun k _ hk => (d k hk).2), hK⟩
  rcases hk with hk | hk
  · exact d k (Or.inl hk)
  · rcases hg with e | ⟨k', e, hk'⟩
    · rw [e] at hk; exact d k (Or.inr hk)
    · rw [e] at hk
      have : k' = k := by simpa using hk
      have h1 := f.size
      have h2 := fv.size
      exact ⟨by omega, fun q => by have := hK k q; omega⟩
theorem wb_step {W V w : World} {K : Nat → Prop} {pv : Value} {bs bs' : Bs} {m n : Nat} {F : FuncId} {args : Array Value} (h : WB W V K pv w bs m)
    (k : ∀ g, Wi.WrO pv w bs g m → Calls Tryz.prog F args w fun e w' => e = .returned (.tuple #[]) ∧ Wi.WTo pv w g w' bs' n) :
    Calls Tryz.prog F args w fun e w' => e = .returned (.tuple #[]) ∧ WB W V K pv w' bs' n := by
  obtain ⟨g, a, f, d, fv, hK⟩ := h
  exact (k g a).mono fun e w' h => ⟨h.1, wb_to f d fv hK h.2⟩
theorem wb_of {W w : World} {pv : Value} {bs : Bs} {n : Nat} (h : Wi.WOwn W pv w bs n) : WB W W (fun _ => False) pv w bs n := by
  obtain ⟨g, a, f, d⟩ := h
  exact ⟨g, a, of_wi f, fun k hk => ⟨d k hk, fun q => q⟩, (of_wi f).mono (fun _ _ q => q.elim), fun _ q => q.elim⟩
theorem wb_shut {W V w : World} {K : Nat → Prop} {pv : Value} {bs : Bs} {n : Nat} (h : WB W V K pv w bs n) : Wi.WOwn W pv w bs n := by
  obtain ⟨g, a, f, d, _⟩ := h
  exact ⟨g, a, to_wi f, fun k hk => (d k hk).1⟩
theorem wb_open {W w : World} {pv : Value} {bs : Bs} {n : Nat} (h : Wi.WOwn W pv w bs n) (o : Obj) : WB W (w.alloc o) (fun k => k = w.heap.size) pv (w.alloc o) bs n := by
  obtain ⟨g, a, f, d⟩ := h
  refine ⟨g, a.alloc o, (of_wi f).same (Fr.alloc _ _ _), fun k hk => ⟨d k hk, fun q => ?_⟩, Fr.refl _ _, fun k q => ?_⟩
  · have := a.lt k hk
    have q : k = w.heap.size := q
    omega
  · have q : k = w.heap.size := q
    have := lt_of_heap (alloc_new w o)
    omega
theorem wb_box {W V w : World} {b : Nat} {pv : Value} {bs : Bs} {n : Nat} {o : Obj} (h : WB W V (fun k => k = b) pv w bs n) (hb : V.heap[b]? = some o) : w.heap[b]? = some o := by
  obtain ⟨g, a, f, d, fv, _⟩ := h
  exact fv.heap hb (fun q => q rfl)
theorem wb_later {W V w w' : World} {K : Nat → Prop} {pv : Value} {bs : Bs} {n : Nat} (h : WB W V K pv w bs n) (hf : Fr (fun _ => False) w w') : WB W V K pv w' bs n := by
  obtain ⟨g, a, f, d, fv, hK⟩ := h
  exact ⟨g, a.keep (to_wi hf) (fun _ _ f => f) (fun _ _ f => f), f.same hf, d, fv.same (hf.mono fun _ _ q => q.elim), hK⟩
theorem wb_less {W V w : World} {K : Nat → Prop} {pv : Value} {bs : Bs} {n m : Nat} (h : WB W V K pv w bs n) (hm : m ≤ n) : WB W V K pv w bs m := by
  obtain ⟨g, a, f⟩ := h
  exact ⟨g, a.less hm, f⟩
theorem wb_fr {W V w : World} {K : Nat → Prop} {pv : Value} {bs : Bs} {n : Nat} (h : WB W V K pv w bs n) : Fr (fun _ => False) W w := by
  obtain ⟨g, a, f, _⟩ := h
  exact f
theorem byte_wb (W V : World) (K : Nat → Prop) (pv : Value) (c : UInt8) (bs : Bs) (n : Nat) (w : World) (h : WB W V K pv w bs (1 + n)) :
    Calls Tryz.prog 26 #[pv, .int .u8 (c.toNat : Int)] w fun e w' => e = .returned (.tuple #[]) ∧ WB W V K pv w' (bs ++ [c]) n := wb_step h fun g a => Wi.byte_any pv c bs g n w a
theorem byte_wz (W V : World) (K : Nat → Prop) (pv : Value) (z : Int) (c : UInt8) (hz : z = (c.toNat : Int)) (bs : Bs) (n : Nat) (w : World) (h : WB W V K pv w bs (1 + n)) :
    Calls Tryz.prog 26 #[pv, .int .u8 z] w fun e w' => e = .returned (.tuple #[]) ∧ WB W V K pv w' (bs ++ [c]) n := by
  subst hz
  exact byte_wb W V K pv c bs n w h
theorem int_wb (W V : World) (K : Nat → Prop) (pv : Value) (N : Nat) (bs : Bs) (n : Nat) (w : World) (hN : N < 2147483648) (h : WB W V K pv w bs (4 + n)) :
    Calls Tryz.prog 27 #[pv, .int .i64 (N : Int)] w fun e w' => e = .returned (.tuple #[]) ∧ WB W V K pv w' (bs ++ be 4 N) n :=
  wb_step h fun g a => (Wi.int_any pv (N : Int) bs g n w a).mono (by rintro e w' ⟨rfl, h⟩; rw [i31_be hN] at h; exact ⟨rfl, h⟩)
theorem long_wb (W V : World) (K : Nat → Prop) (pv : Value) (N : Nat) (bs : Bs) (n : Nat) (w : World) (hN : N < 18446744073709551616) (h : WB W V K pv w bs (8 + n)) :
    Calls Tryz.prog 28 #[pv, .int .u64 (N : Int)] w fun e w' => e = .returned (.tuple #[]) ∧ WB W V K pv w' (bs ++ be 8 N) n :=
  wb_step h fun g a => (Wi.long_any pv N bs g n w hN a).mono (by rintro e w' ⟨rfl, h⟩; rw [beS_be] at h; exact ⟨rfl, h⟩)
theorem raw_wb (W V w0 w : World) (K : Nat → Prop) (pv v : Value) (l bs : Bs) (n : Nat) (hl : l.length < 2147483648) (h : WB W V K pv w0 bs (4 + (l.length + n))) (hV : Fr (fun _ => False) w0 w) (ho : Bw w w0.heap.size v l) :
    Calls Tryz.prog 48 #[pv, v] w fun e w' => e = .returned (.tuple #[]) ∧ WB W V K pv w' (bs ++ (be 4 l.length ++ l)) n := by
  obtain ⟨g, a, f, d, fv, hK⟩ := h
  have a' := a.keep (to_wi hV) (fun _ _ f => f) (fun _ _ f => f)
  have hs : Wi.Sl w v (Wi.bc l) := (Wi.Sl.of_own (show w.ownsRow _ 5 1 v l.length (Wi.bc l) from ho)).1
  refine (Wi.raw_any pv v l bs g n w a' hs (Or.inr fun k hk h2 => ?_)).mono ?_
  · have h1 := (own_block ho k hk).1
    have h3 := a.lt k h2
    omega
  · rintro e w' ⟨rfl, hto⟩
    rw [Wi.rawS, i31_be hl] at hto
    exact ⟨rfl, wb_to (f.same hV) d (fv.same (hV.mono fun _ _ q => q.elim)) hK hto⟩
theorem u8_mod {x : Int} (h : 0 ≤ x ∧ x < 256) : x % 256 = ((u8 x).toNat : Int) := by
  rw [u8_nat h]
  omega
theorem u8_wrap {x : Int} (h : 0 ≤ x ∧ x < 256) : IntKind.u8.wrap x = ((u8 x).toNat : Int) := by
  rw [IntKind.wrap_u8]
  exact u8_mod h
theorem tk_snoc {α : Type} {l : List α} {j : Nat} {x : α} (h : l[j]? = some x) : l.take (j + 1) = l.take j ++ [x] := by
  rw [List.take_add_one, h]; rfl
theorem flat_snocB {α : Type} {l : List α} {j : Nat} {x : α} (f : α → Bs) (h : l[j]? = some x) : (l.take (j + 1)).flatMap f = (l.take j).flatMap f ++ f x := by
  rw [tk_snoc h, List.flatMap_append]
  simp
set_option maxHeartbeats 1000000 in
theorem types_wb (W V : World) (K : Nat → Prop) (p : Nat) (l : List Int) (ao : Option Addr) (N cap : Nat) (hN : l.length = N) (bs : Bs) (n : Nat) (w : World) (hl : l.length < 256) (hx : ∀ x ∈ l, 0 ≤ x ∧ x < 256) (hI : InL W ao cap l) (h : WB W V K (.pointer (some ⟨p, 0, none⟩)) w bs (1 + (N + n))) :
    Calls Tryz.prog 46 #[.pointer (some ⟨p, 0, none⟩), .slice ao N cap] w fun e w' => e = .returned (.tuple #[]) ∧ WB W V K (.pointer (some ⟨p, 0, none⟩)) w' (bs ++ wrT l) n := by
  have k0 := byte_wb W V K (.pointer (some ⟨p, 0, none⟩)) (UInt8.ofNat N) bs (N + n) w h
  rw [show (((UInt8.ofNat N).toNat : Nat) : Int) = (N : Int) by rw [UInt8.toNat_ofNat']; omega] at k0
  have hw : Hidden (wrT l = [UInt8.ofNat N] ++ l.flatMap (fun x => [u8 x])) := by show _ = _; unfold wrT; rw [hN]
  have hcap : N ≤ cap := by rw [← hN]; exact hI.1
  have hcm : cap ≤ 9223372036854775807 := by have := hI.2.1; simpa [maxLen] using this
  have hNH : Hidden (l.length = N) := hN
  have hxH : Hidden (∀ x ∈ l, 0 ≤ x ∧ x < 256) := hx
  have hIH : Hidden (InL W ao cap l) := hI
  have hN2 : N < 256 := by omega
  generalize UInt8.ofNat N = c0 at *
  clear hN hx hI h hl
  go_enter Tryz.func46, Tryz.ntmps46
  go_wp2_with (go_at_call 26; refine k0.mono ?_; rintro e w1 ⟨rfl, h1⟩; have h1H : Hidden (WB W V K (.pointer (some ⟨p, 0, none⟩)) w1 (bs ++ [c0]) (N + n)) := h1; clear h1 k0)
  go_loopg [5, 15] N (fun k _ iv wr => ∃ j : Nat, iv = .int .i64 (j : Int) ∧ j ≤ N ∧ k = N - j ∧ WB W V K (.pointer (some ⟨p, 0, none⟩)) wr (bs ++ ([c0] ++ (l.take j).flatMap (fun x => [u8 x]))) (N - j + n))
  case atStart => exact ⟨0, rfl, by omega, rfl, by simpa using (show WB W V K (.pointer (some ⟨p, 0, none⟩)) w1 (bs ++ [c0]) (N + n) from h1H)⟩
  case round =>
    obtain ⟨j, rfl, hj, hk, hb⟩ := hrel
    have hkH : Hidden (gk = N - j) := hk
    have hbH : Hidden (WB W V K (.pointer (some ⟨p, 0, none⟩)) wr (bs ++ ([c0] ++ (l.take j).flatMap (fun x => [u8 x]))) (N - j + n)) := hb
    clear hk hb
    by_cases hjl : j < N
    · obtain ⟨x, hx⟩ : ∃ x, l[j]? = some x := ⟨_, List.getElem?_eq_getElem (by have : l.length = N := hNH; omega)⟩
      obtain ⟨b, off, rfl, cells⟩ := (show InL W ao cap l from hIH).2.2.2.resolve_left (by rintro rfl; simp at hx)
      have c1 := (wb_fr hbH).cellN (cells j x hx)
      have hm := u8_mod ((show ∀ x ∈ l, 0 ≤ x ∧ x < 256 from hxH) x (List.mem_of_getElem? hx))
      have htk : Hidden ((l.take (j + 1)).flatMap (fun x => [u8 x]) = (l.take j).flatMap (fun x => [u8 x]) ++ [u8 x]) := flat_snocB _ hx
      have kb := byte_wb W V K (.pointer (some ⟨p, 0, none⟩)) (u8 x) _ (N - (j + 1) + n) wr (by rw [show 1 + (N - (j + 1) + n) = N - j + n by omega]; exact hbH)
      have hjn : (j : Int) < (N : Int) := by omega
      generalize u8 x = c at *
      clear hx cells hjl
      go_wp2_with (go_at_call 26; refine kb.mono ?_; rintro e w2 ⟨rfl, h2⟩)
      go_roundg (N - (j + 1))
      case measure => have : gk = N - j := hkH; omega
      case rel => exact ⟨j + 1, by go_num, by omega, rfl, by rw [show (l.take (j + 1)).flatMap (fun x => [u8 x]) = _ from htk, ← List.append_assoc, ← List.append_assoc]; rw [← List.append_assoc] at h2; exact h2⟩
    · obtain rfl : j = N := by omega
      have hfull : Hidden (bs ++ wrT l = bs ++ ([c0] ++ (l.take j).flatMap (fun x => [u8 x]))) := by
        show _ = _
        rw [show wrT l = _ from hw, ← show l.length = j from hNH, List.take_length]
      have hjn : decide ((j : Int) < (j : Int)) = false := by simp
      clear hjl
      go_wp2_with fail
      go_end0
      refine ⟨rfl, ?_⟩
      rw [show bs ++ wrT l = _ from hfull]
      have := (show WB W V K (.pointer (some ⟨p, 0, none⟩)) wr _ _ from hbH)
      rw [Nat.sub_self, Nat.zero_add] at this
      exact this
end Go.Proofs.YtoiglopilpoafaaGreatDoor.Im

namespace Go.Proofs.YtoiglopilpoafaaGreatDoor.Cd
open Go.RowKit Ty
set_option linter.unusedSimpArgs false
set_option linter.unusedVariables false

theorem byR_le (op : Int) : 0 ≤ byR op ∧ byR op ≤ 9 := by
  unfold byR wd
  repeat' split
  all_goals omega
set_option maxRecDepth 20000 in
set_option maxHeartbeats 1000000 in
theorem size_any (i : In) (w : World) : Calls Tryz.prog 83 #[inV i] w fun e w' => e = .returned (ci (sizeS i.op)) ∧ Fr (fun _ => False) w w' := by
  obtain ⟨op, n, t, b⟩ := i
  have kr := fun w => row_is op w
  have hby := byR_le op
  have hs : sizeS op = if known op then 1 + byR op else 0 := by
    unfold sizeS byR
    split
    · split <;> simp_all
    · rfl
  simp only [] at *
  rw [hs]
  clear hs
  generalize nmR op = nm at kr
  generalize byR op = by' at kr hby ⊢
  generalize lo op = l at kr
  generalize hi op = h at kr
  generalize nuR op = nu at kr
  generalize taR op = ta at kr
  generalize puR op = pu at kr
  generalize trR op = tr at kr
  generalize enR op = en at kr
  generalize known op = kn at kr ⊢
  cases kn
  all_goals
    go_enter Tryz.func83, Tryz.ntmps83
    go_wp2_with (first
      | (go_at_call 71; refine (kr _).mono ?_; rintro e w1 ⟨rfl, f1⟩))
    go_ret
    exact ⟨by rfl, ((Fr.alloc _ _ _).same f1).same (Fr.alloc _ _ _)⟩
end Go.Proofs.YtoiglopilpoafaaGreatDoor.Cd
