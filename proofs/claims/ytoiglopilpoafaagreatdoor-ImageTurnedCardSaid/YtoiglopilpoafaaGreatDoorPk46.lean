/- Texts of ours, in one. -/
import Derived.Test.YtoiglopilpoafaaGreatDoorPk38
import Derived.Test.YtoiglopilpoafaaGreatDoorPk45
import Derived.Test.YtoiglopilpoafaaGreatDoorPk30
namespace Go.Proofs.YtoiglopilpoafaaGreatDoor.Im
open Go.RowKit Ty Cd
set_option linter.unusedSimpArgs false
set_option linter.unusedVariables false
set_option maxRecDepth 20000

theorem info_img : (Tryz.prog.info? 28).map (·.size) = some 3 := by kernel_rfl
theorem igf_no (B : Nat) (w : World) : IgF B w igNo none none 0 0 := fun _ _ _ _ => ⟨⟨Nat.le_refl _, Nat.zero_le _, fun _ => rfl, Or.inl rfl⟩, ⟨Nat.le_refl _, Nat.zero_le _, fun _ => rfl, Or.inl rfl⟩⟩
/-- What Unpack hands back. -/
def UnR (w : World) (l : Bs) (e : Ending) (w' : World) : Prop := ∃ va fa vc fc, e = .returned (.tuple #[.agg #[.slice va (unG l).vars.length vc, .slice fa (unG l).fns.length fc, ci (unG l).mn], ci (unE l)]) ∧ IgF w.heap.size w' (unG l) va fa vc fc ∧ Fr (fun _ => False) w w'
theorem unR_no {w w' : World} {l : Bs} {c : Int} (h : unE l = c) (hc : c ≠ 0) (f : Fr (fun _ => False) w w') : UnR w l (.returned (.tuple #[.agg #[.slice none 0 0, .slice none 0 0, ci 0], ci c])) w' := by
  have hg : unG l = igNo := by unfold unG; rw [if_neg (by rw [h]; exact hc)]
  unfold UnR
  rw [hg, h]
  exact ⟨none, none, 0, 0, rfl, igf_no _ w', f⟩
theorem un_big {l : Bs} (h : 65536 < l.length) : unE l = 3 := by unfold unE; rw [if_pos h]
theorem un_shut {l : Bs} (h : ¬ 65536 < l.length) (h2 : l.length < 4 ∨ l.drop (l.length - 4) ≠ sealS (innerS l)) : unE l = 53 := by unfold unE; rw [if_neg h, if_pos h2]
theorem un_bad {l : Bs} (h : ¬ 65536 < l.length) (h3 : rightG (rdG (innerS l)) ≠ 0 ∨ wrI (rdG (innerS l)) ≠ innerS l) : unE l = 53 := by
  unfold unE
  rw [if_neg h]
  by_cases h2 : l.length < 4 ∨ l.drop (l.length - 4) ≠ sealS (innerS l)
  · rw [if_pos h2]
  · rw [if_neg h2, if_pos h3]
theorem un_ok {l : Bs} (h : ¬ 65536 < l.length) (h1 : 4 ≤ l.length) (h2 : l.drop (l.length - 4) = sealS (innerS l)) (h3 : rightG (rdG (innerS l)) = 0) (h4 : wrI (rdG (innerS l)) = innerS l) : unE l = 0 ∧ unG l = rdG (innerS l) := by
  have e : unE l = 0 := by
    unfold unE
    rw [if_neg h, if_neg (by rw [h2]; simp; omega), if_neg (by rw [h3, h4]; simp)]
  exact ⟨e, by unfold unG; rw [if_pos e]⟩
set_option maxHeartbeats 4000000 in
theorem unpack_any (ao : Option Addr) (n cap : Nat) (l : Bs) (hn : l.length = n) (w : World) (h : BL w ao cap l) (ht : F.Tab w) :
    Calls Tryz.prog 9 #[.slice ao n cap] w (UnR w l) := by
  obtain ⟨V, hV⟩ : ∃ V, V = w.alloc (.cells #[.slice none 0 0, .slice none 0 0, .int .i64 0] 28 (0, 0)) := ⟨_, rfl⟩
  have fV : Fr (fun _ => False) w V := by rw [hV]; exact Fr.alloc _ _ _
  have xV : V.heap[w.heap.size]? = some (.cells #[.slice none 0 0, .slice none 0 0, .int .i64 0] 28 (0, 0)) := by rw [hV]; exact alloc_new _ _
  have hVH : Hidden (V = _) := hV
  have fVH : Hidden (Fr (fun _ => False) w V) := fV
  have xVH : Hidden (V.heap[w.heap.size]? = some (.cells #[.slice none 0 0, .slice none 0 0, .int .i64 0] 28 (0, 0))) := xV
  by_cases h1 : 65536 < n
  · have b1 : decide ((65536 : Int) < (n : Int)) = true := by simp; omega
    have hu := un_big (l := l) (by omega)
    obtain ⟨z0, z1, z2⟩ := box3 xV
    obtain ⟨y0, y1, y2⟩ := frozen3 xV
    have huH : Hidden (unE l = 3) := hu
    generalize hG : w.heap.size = G at *
    have hGH : Hidden (w.heap.size = G) := hG
    clear hu h1 hn h ht hV fV xV hG
    go_enter Tryz.func9, Tryz.ntmps9
    go_upto_region 1 with fail
    rw [← (show V = _ from hVH), show w.heap.size = G from hGH]
    clear hVH
    go_wp2_with fail
    refine post_cs rfl rfl G #[.slice none 0 0, .slice none 0 0, ci 0] rfl (run_loadVar_row _ _ _ _ _ _ _ (three_put (show V.heap[G]? = _ from xVH) _ _ _) Tryz.underlying28 rfl info_img) (unR_no huH (by decide) ?_)
    exact (show Fr (fun _ => False) w V from fVH).over (three_fr V G _ _ _) (fun k e => by have : w.heap.size = G := hGH; omega)
  have b1 : decide ((65536 : Int) < (n : Int)) = false := by simp; omega
  by_cases h2 : n < 4
  · have hu := un_shut (l := l) (by omega) (Or.inl (by omega))
    have ko := opened_short ao n cap h2 V
    obtain ⟨z0, z1, z2⟩ := box3 xV
    obtain ⟨y0, y1, y2⟩ := frozen3 xV
    have huH : Hidden (unE l = 53) := hu
    generalize hG : w.heap.size = G at *
    have hGH : Hidden (w.heap.size = G) := hG
    clear hu h1 h2 hn h ht hV fV xV hG
    go_enter Tryz.func9, Tryz.ntmps9
    go_upto_region 1 with fail
    rw [← (show V = _ from hVH), show w.heap.size = G from hGH]
    clear hVH
    go_wp2_with (go_at_call 20; refine ko.mono ?_; rintro e w1 ⟨rfl, rfl⟩)
    refine post_cs rfl rfl G #[.slice none 0 0, .slice none 0 0, ci 0] rfl (run_loadVar_row _ _ _ _ _ _ _ (three_put (show w1.heap[G]? = _ from xVH) _ _ _) Tryz.underlying28 rfl info_img) (unR_no huH (by decide) ?_)
    exact (show Fr (fun _ => False) w w1 from fVH).over (three_fr w1 G _ _ _) (fun k e => by have : w.heap.size = G := hGH; omega)
  obtain ⟨M, hM⟩ : ∃ M, n = M + 4 := ⟨n - 4, by omega⟩
  obtain ⟨b, off, rfl⟩ : ∃ b off, ao = some ⟨b, off, none⟩ := by
    rcases h.2.2.2 with e | ⟨b, off, e, _⟩
    · rw [e] at hn; simp at hn; omega
    · exact ⟨b, off, e⟩
  have ko := opened_any b off cap n M l hn hM V (h.keep fV)
  have hin : innerS l = l.take M := by unfold innerS; rw [hn, hM]; rfl
  have hMl : l.length - 4 = M := by omega
  by_cases h3 : l.drop M = sealS (l.take M)
  case neg =>
    rw [decide_eq_false h3] at ko
    have hu := un_shut (l := l) (by omega) (Or.inr (by rw [hMl, hin]; exact h3))
    have huH : Hidden (unE l = 53) := hu
    generalize hG : w.heap.size = G at *
    have hGH : Hidden (w.heap.size = G) := hG
    clear hu h1 h2 h3 hn h ht hV fV xV hG hM hin hMl
    go_enter Tryz.func9, Tryz.ntmps9
    go_upto_region 1 with fail
    rw [← (show V = _ from hVH), show w.heap.size = G from hGH]
    clear hVH
    go_wp2_with (go_at_call 20; refine ko.mono ?_; rintro e w1 ⟨rfl, f1⟩
                 have x1 := f1.heap (show V.heap[G]? = _ from xVH) (fun f => f)
                 obtain ⟨z0, z1, z2⟩ := box3 x1
                 obtain ⟨y0, y1, y2⟩ := frozen3 x1
                 have x1H : Hidden _ := x1
                 have f1H : Hidden (Fr (fun _ => False) w w1) := (show Fr (fun _ => False) w V from fVH).same f1
                 clear f1 x1 ko)
    refine post_cs rfl rfl G #[.slice none 0 0, .slice none 0 0, ci 0] rfl (run_loadVar_row _ _ _ _ _ _ _ (three_put (show w1.heap[G]? = _ from x1H) _ _ _) Tryz.underlying28 rfl info_img) (unR_no huH (by decide) ?_)
    exact (show Fr (fun _ => False) w w1 from f1H).over (three_fr w1 G _ _ _) (fun k e => by have : w.heap.size = G := hGH; omega)
  rw [decide_eq_true h3] at ko
  have hMlen : (l.take M).length = M := by rw [List.length_take]; omega
  have hMle : M ≤ 65536 := by omega
  have krd := fun X (hX : Fr (fun _ => False) V X) => read_any (some ⟨b, off, none⟩) M cap (l.take M) hMlen hMle X ((bl_front (h.keep fV) M).keep hX)
  have hin4 : Hidden (∀ X, Fr (fun _ => False) V X → BL X (some ⟨b, off, none⟩) cap (l.take M)) := fun X hX => (bl_front (h.keep fV) M).keep hX
  have htV : Hidden (F.Tab V) := tab_fr ht fV
  have ok : Hidden (OkG (rdG (l.take M))) := rdG_ok (by omega)
  have un1 : Hidden (rightG (rdG (l.take M)) ≠ 0 ∨ wrI (rdG (l.take M)) ≠ l.take M → unE l = 53) := fun g => un_bad (by omega) (by rw [hin]; exact g)
  have un2 : Hidden (rightG (rdG (l.take M)) = 0 → wrI (rdG (l.take M)) = l.take M → unE l = 0 ∧ unG l = rdG (l.take M)) := fun g1 g2 => by rw [← hin]; exact un_ok (by omega) (by omega) (by rw [hMl, hin]; exact h3) (by rw [hin]; exact g1) (by rw [hin]; exact g2)
  obtain ⟨T, hT⟩ : ∃ T, T = l.take M := ⟨_, rfl⟩
  rw [← hT] at krd hMlen hin4 ok un1 un2
  obtain ⟨I, hI⟩ : ∃ I, I = rdG T := ⟨_, rfl⟩
  rw [← hI] at ok un1 un2
  simp only [← hI] at krd
  have hTlH : Hidden (T.length = M) := hMlen
  have xVH2 := xVH
  generalize hG : w.heap.size = G at *
  have hGH : Hidden (w.heap.size = G) := hG
  obtain ⟨vars, fns, mn⟩ := I
  simp only [] at krd
  clear h1 h2 h3 hn h ht hV fV xV hG hM hin hMl hMlen hMle hT hI xVH2
  go_enter Tryz.func9, Tryz.ntmps9
  go_upto_region 1 with fail
  rw [← (show V = _ from hVH), show w.heap.size = G from hGH]
  clear hVH
  go_upto_region 7 with (first
    | (go_at_call 20; refine ko.mono ?_; rintro e w1 ⟨rfl, f1⟩
       have krd1 := krd w1 f1
       have f1H : Hidden (Fr (fun _ => False) V w1) := f1
       clear f1 ko krd)
    | (go_at_call 21; refine krd1.mono ?_; rintro e w2 ⟨va, fa, vc, fc, rfl, hA, f2⟩
       have hAH : Hidden (IgF V.heap.size w2 ⟨vars, fns, mn⟩ va fa vc fc) := hA.lower (show Fr (fun _ => False) V w1 from f1H).size
       have f2H : Hidden (Fr (fun _ => False) V w2) := (show Fr (fun _ => False) V w1 from f1H).same f2
       clear hA f2 krd1))
  obtain ⟨Z, hZ⟩ : ∃ Z, Z = w2.alloc (.cells #[.slice va vars.length vc, .slice fa fns.length fc, ci mn] 28 (0, 0)) := ⟨_, rfl⟩
  have fZ : Fr (fun _ => False) w2 Z := by rw [hZ]; exact Fr.alloc _ _ _
  have xZ : Z.heap[w2.heap.size]? = some (.cells #[.slice va vars.length vc, .slice fa fns.length fc, ci mn] 28 (0, 0)) := by rw [hZ]; exact alloc_new _ _
  have hAF : Hidden (IgF V.heap.size Z ⟨vars, fns, mn⟩ va fa vc fc) := (show IgF V.heap.size w2 ⟨vars, fns, mn⟩ va fa vc fc from hAH).keep fZ (fun _ f => f.elim)
  have hAZ : Hidden (IgA Z ⟨vars, fns, mn⟩ va fa vc fc) := IgF.now hAF
  have fVZ : Hidden (Fr (fun _ => False) V Z) := (show Fr (fun _ => False) V w2 from f2H).same fZ
  rw [← hZ]
  generalize w2.heap.size = E at *
  obtain ⟨e0, e1, e2⟩ := box3 xZ
  have xZH : Hidden (Z.heap[E]? = some (.cells #[.slice va vars.length vc, .slice fa fns.length fc, ci mn] 28 (0, 0))) := xZ
  have kr := right_any ⟨vars, fns, mn⟩ ok va fa vc fc vars.length fns.length rfl rfl Z hAZ (tab_fr htV fVZ)
  clear hZ fZ xZ hAH f2H f1H
  clear w2
  by_cases h0 : rightG ⟨vars, fns, mn⟩ = 0
  case neg =>
    have hu : Hidden (unE l = 53) := (show _ ∨ _ → _ from un1) (Or.inl h0)
    have bR : (rightG ⟨vars, fns, mn⟩ != 0) = true := by simpa using h0
    simp only [] at kr
    generalize rightG ⟨vars, fns, mn⟩ = R at *
    generalize vars.length = nv at *
    generalize fns.length = nf at *
    clear h0 un1 un2
    go_wp2_with (go_at_call 7; refine kr.mono ?_; rintro e w3 ⟨rfl, f3⟩
                 have x3 := ((show Fr (fun _ => False) V Z from fVZ).same f3).heap (show V.heap[G]? = _ from xVH) (fun f => f)
                 obtain ⟨z0, z1, z2⟩ := box3 x3
                 obtain ⟨y0, y1, y2⟩ := frozen3 x3
                 have x3H : Hidden _ := x3
                 have f3H : Hidden (Fr (fun _ => False) w w3) := ((show Fr (fun _ => False) w V from fVH).same fVZ).same f3
                 clear f3 x3 kr)
    refine post_cs rfl rfl G #[.slice none 0 0, .slice none 0 0, ci 0] rfl (run_loadVar_row _ _ _ _ _ _ _ (three_put (show w3.heap[G]? = _ from x3H) _ _ _) Tryz.underlying28 rfl info_img) (unR_no hu (by decide) ?_)
    exact (show Fr (fun _ => False) w w3 from f3H).over (three_fr w3 G _ _ _) (fun k e => by have : w.heap.size = G := hGH; omega)
  have rt := rt_of (show OkG ⟨vars, fns, mn⟩ from ok) h0
  have kw := fun X (hX : Fr (fun _ => False) Z X) => written_any ⟨vars, fns, mn⟩ rt va fa vc fc vars.length fns.length rfl rfl X ((show IgA Z ⟨vars, fns, mn⟩ va fa vc fc from hAZ).keep hX)
  rw [h0] at kr
  simp only [] at kr kw
  obtain ⟨L, hL⟩ : ∃ L, L = wrI ⟨vars, fns, mn⟩ := ⟨_, rfl⟩
  simp only [← hL] at kw
  by_cases h4 : L = T
  case neg =>
    have hu : Hidden (unE l = 53) := (show _ ∨ _ → _ from un1) (Or.inr (by rw [← hL]; exact h4))
    have bL : (L == T) = false := by simpa using h4
    have ke := fun X a1 n1 c1 (k1 : BL X a1 c1 L) (hn : L.length = n1) (k2 : BL X (some ⟨b, off, none⟩) cap T) => bytesEq_any a1 (some ⟨b, off, none⟩) n1 M c1 cap L T hn hTlH X k1 k2
    rw [bL] at ke
    generalize vars.length = nv at *
    generalize fns.length = nf at *
    clear h0 un1 un2 rt bL h4 hL
    go_wp2_with (first
      | (go_at_call 7; refine kr.mono ?_; rintro e w3 ⟨rfl, f3⟩
         obtain ⟨e0, e1, e2⟩ := box3 (f3.heap (show Z.heap[E]? = _ from xZH) (fun f => f))
         have kw1 := kw w3 f3
         have f3H : Hidden (Fr (fun _ => False) Z w3) := f3
         clear f3 kr kw)
      | (go_at_call 12; refine kw1.mono ?_; rintro e w4 ⟨v, rfl, h4, f4⟩
         obtain ⟨a4, c4, hv, hbl⟩ := h4.bl
         subst hv
         have g4 : Fr (fun _ => False) V w4 := ((show Fr (fun _ => False) V Z from fVZ).same f3H).same f4
         have ke1 := ke w4 a4 _ c4 hbl rfl ((show ∀ X, _ → _ from hin4) w4 g4)
         have x4 := g4.heap (show V.heap[G]? = _ from xVH) (fun f => f)
         obtain ⟨z0, z1, z2⟩ := box3 x4
         obtain ⟨y0, y1, y2⟩ := frozen3 x4
         have x4H : Hidden _ := x4
         have f4H : Hidden (Fr (fun _ => False) w w4) := (show Fr (fun _ => False) w V from fVH).same g4
         generalize L.length = nl at *
         clear h4 f4 hbl ke kw1 g4 x4)
      | (go_at_call 22; refine ke1.mono ?_; rintro e w5 ⟨rfl, rfl⟩))
    refine post_cs rfl rfl G #[.slice none 0 0, .slice none 0 0, ci 0] rfl (run_loadVar_row _ _ _ _ _ _ _ (three_put (show w5.heap[G]? = _ from x4H) _ _ _) Tryz.underlying28 rfl info_img) (unR_no hu (by decide) ?_)
    exact (show Fr (fun _ => False) w w5 from f4H).over (three_fr w5 G _ _ _) (fun k e => by have : w.heap.size = G := hGH; omega)
  obtain ⟨hu, hg⟩ := (show _ → _ → unE l = 0 ∧ _ from un2) h0 (by rw [← hL]; exact h4)
  have huH : Hidden (unE l = 0) := hu
  have hgH : Hidden (unG l = ⟨vars, fns, mn⟩) := hg
  have bL : (L == T) = true := by simpa using h4
  have ke := fun X a1 n1 c1 (k1 : BL X a1 c1 L) (hn : L.length = n1) (k2 : BL X (some ⟨b, off, none⟩) cap T) => bytesEq_any a1 (some ⟨b, off, none⟩) n1 M c1 cap L T hn hTlH X k1 k2
  rw [bL] at ke
  obtain ⟨nv, hnv⟩ : ∃ nv, vars.length = nv := ⟨_, rfl⟩
  obtain ⟨nf, hnf⟩ : ∃ nf, fns.length = nf := ⟨_, rfl⟩
  rw [hnv] at kr e0 xZH
  rw [hnf] at kr e1 xZH
  rw [hnv, hnf]
  simp only [hnv, hnf] at kw
  have hnvH : Hidden (vars.length = nv) := hnv
  have hnfH : Hidden (fns.length = nf) := hnf
  clear h0 un1 un2 rt bL h4 hL hu hg hnv hnf
  go_wp2_with (first
    | (go_at_call 7; refine kr.mono ?_; rintro e w3 ⟨rfl, f3⟩
       obtain ⟨e0, e1, e2⟩ := box3 (f3.heap (show Z.heap[E]? = _ from xZH) (fun f => f))
       have kw1 := kw w3 f3
       have f3H : Hidden (Fr (fun _ => False) Z w3) := f3
       clear f3 kr kw)
    | (go_at_call 12; refine kw1.mono ?_; rintro e w4 ⟨v, rfl, h4, f4⟩
       obtain ⟨a4, c4, hv, hbl⟩ := h4.bl
       subst hv
       have g34 : Fr (fun _ => False) Z w4 := (show Fr (fun _ => False) Z w3 from f3H).same f4
       have g4 : Fr (fun _ => False) V w4 := (show Fr (fun _ => False) V Z from fVZ).same g34
       have ke1 := ke w4 a4 _ c4 hbl rfl ((show ∀ X, _ → _ from hin4) w4 g4)
       have x4 := g4.heap (show V.heap[G]? = _ from xVH) (fun f => f)
       obtain ⟨z0, z1, z2⟩ := box3 x4
       obtain ⟨y0, y1, y2⟩ := frozen3 x4
       obtain ⟨s0, s1, s2⟩ := box3 (g34.heap (show Z.heap[E]? = _ from xZH) (fun f => f))
       have x4H : Hidden _ := x4
       have g34H : Hidden (Fr (fun _ => False) Z w4) := g34
       have f4H : Hidden (Fr (fun _ => False) w w4) := (show Fr (fun _ => False) w V from fVH).same g4
       generalize L.length = nl at *
       clear h4 f4 hbl ke kw1 g4 x4 g34)
    | (go_at_call 22; refine ke1.mono ?_; rintro e w5 ⟨rfl, rfl⟩))
  have hw : w.heap.size = G := hGH
  have f5 := three_fr w5 G (.slice va nv vc) (.slice fa nf fc) (ci mn)
  have hGV : G < V.heap.size := lt_of_heap (show V.heap[G]? = _ from xVH)
  refine post_cs rfl rfl G #[.slice va nv vc, .slice fa nf fc, ci mn] rfl (run_loadVar_row _ _ _ _ _ _ _ (three_put (show w5.heap[G]? = _ from x4H) _ _ _) Tryz.underlying28 rfl info_img) ?_
  refine ⟨va, fa, vc, fc, ?_, ?_, ?_⟩
  · rw [show unG l = _ from hgH, show unE l = 0 from huH]
    rw [show vars.length = nv from hnvH, show fns.length = nf from hnfH]
    rfl
  · rw [show unG l = _ from hgH]
    exact (((show IgF V.heap.size Z ⟨vars, fns, mn⟩ va fa vc fc from hAF).keep (show Fr (fun _ => False) Z w5 from g34H) (fun _ f => f.elim)).keep f5 (fun k e => by have e : k = G := e; omega)).lower (by omega)
  · exact (show Fr (fun _ => False) w w5 from f4H).over f5 (fun k e => by omega)
end Go.Proofs.YtoiglopilpoafaaGreatDoor.Im

namespace Go.Proofs.YtoiglopilpoafaaGreatDoor.Im
open Go.RowKit Ty Cd
set_option linter.unusedSimpArgs false
set_option linter.unusedVariables false
set_option maxRecDepth 20000

def exF : Fu := ⟨⟨[], 1⟩, [], [⟨1, 0, 1, 5⟩, ⟨11, 0, 0, 0⟩]⟩
def exI : Ig := ⟨[], [exF], 0⟩
def exJ : Ig := ⟨[], [exF], 1⟩
theorem exJ_right : rightG exJ = 53 := by rfl
theorem exI_len : (packS exI).length = 38 := by
  unfold packS
  rw [List.length_append, seal_len]
  rfl
theorem exI_mark : (packS exI).take 4 = [102, 105, 109, 103] := by rfl
theorem exI_right : rightG exI = 0 := by kernel_rfl
end Go.Proofs.YtoiglopilpoafaaGreatDoor.Im

namespace Go.Proofs.YtoiglopilpoafaaGreatDoor.Im
open Go.RowKit Ty Cd
set_option linter.unusedSimpArgs false
set_option linter.unusedVariables false
set_option maxRecDepth 20000

theorem ilx_row {w : World} {g cap : Nat} {l : List In} {t : TypeId} (h : w.heap[g]? = some (.cells (l.flatMap inC).toArray t (0, 0))) (h1 : l.length ≤ cap) (h2 : cap ≤ maxLen) : IL w (some ⟨g, 0, none⟩) cap l := by
  refine ⟨h1, h2, (fun e => by cases e), Or.inr ⟨g, 0, rfl, fun i x hx j u hu => ?_⟩⟩
  rw [Nat.zero_add, cell_of_row _ _ _ _ _ _ h]
  simpa using flat_get l i x hx j u hu
abbrev insA : Array Value := #[ci 1, ci 0, ci 1, .int .u64 5, ci 11, ci 0, ci 0, .int .u64 0]
abbrev fnA (g : Nat) : Array Value := #[.slice none 0 0, ci 1, .slice none 0 0, .slice (some ⟨g, 0, none⟩) 2 2]
theorem inl_nil (w : World) : InL w none 0 [] := ⟨Nat.le_refl _, Nat.zero_le _, fun _ => rfl, Or.inl rfl⟩
theorem ex_iga {w : World} {g h : Nat} (mn : Int) (h1 : w.heap[g]? = some (.cells insA 69 (0, 0))) (h2 : w.heap[h]? = some (.cells (fnA g) 46 (0, 0))) : IgA w ⟨[], [exF], mn⟩ none (some ⟨h, 0, none⟩) 0 1 := by
  refine ⟨⟨Nat.le_refl _, Nat.zero_le _, fun _ => rfl, Or.inl rfl⟩, ⟨Nat.le_refl _, by simp [maxLen], (fun e => by cases e), Or.inr ⟨h, 0, rfl, fun i f hf => ?_⟩⟩⟩
  obtain ⟨rfl, rfl⟩ : i = 0 ∧ f = exF := by
    rcases i with _ | i
    · simp at hf; exact ⟨rfl, hf.symm⟩
    · simp at hf
  refine ⟨((none, 0), (none, 0), (some ⟨g, 0, none⟩, 2)), ⟨inl_nil w, inl_nil w, ilx_row (l := exF.cd) h1 (Nat.le_refl 2) (by simp [maxLen])⟩, fun j u hu => ?_⟩
  rw [show 0 + 0 * 4 + j = j by omega, cell_of_row _ _ _ _ _ _ h2]
  simpa [fnC, exF] using hu
theorem ex_ok (mn : Int) : OkG ⟨[], [exF], mn⟩ := by
  have e : ∀ {P : Fu → Prop}, P exF → ∀ f ∈ [exF], P f := fun h f hf => by
    simp only [List.mem_cons, List.not_mem_nil, or_false] at hf
    rw [hf]; exact h
  refine ⟨Nat.zero_le _, (by decide : 1 ≤ 1099511627776), e (by decide), e (by decide), e (by decide), e ?_, fun v hv => by cases hv⟩
  intro x hx
  simp only [exF, List.mem_cons, List.not_mem_nil, or_false] at hx
  rcases hx with rfl | rfl <;> exact ⟨⟨by decide, by decide⟩, ⟨by decide, by decide⟩, ⟨by decide, by decide⟩, ⟨by decide, by decide⟩⟩
set_option maxHeartbeats 4000000 in
theorem alive_any (w : World) (ht : F.Tab w) : Calls Tryz.prog 8 #[] w fun e w' => e = .returned (.bool true) ∧ Fr (fun _ => False) w w' := by
  obtain ⟨V, hV⟩ : ∃ V, V = ((w.alloc (.cells insA 69 (0, 0))).alloc (.cells (fnA w.heap.size) 46 (0, 0))).alloc (.cells #[.slice none 0 0, .slice (some ⟨w.heap.size + 1, 0, none⟩) 1 1, ci 0] 28 (0, 0)) := ⟨_, rfl⟩
  have fV : Fr (fun _ => False) w V := by rw [hV]; exact ((Fr.alloc _ _ _).same (Fr.alloc _ _ _)).same (Fr.alloc _ _ _)
  have x0 : V.heap[w.heap.size]? = some (.cells insA 69 (0, 0)) := by rw [hV]; exact (Fr.alloc (fun _ => False) _ _).heap (heap_alloc2_old _ _ _) (fun f => f)
  have x1 : V.heap[w.heap.size + 1]? = some (.cells (fnA w.heap.size) 46 (0, 0)) := by rw [hV]; exact (Fr.alloc (fun _ => False) _ _).heap (heap_alloc2_new _ _ _) (fun f => f)
  have x2 : V.heap[w.heap.size + 1 + 1]? = some (.cells #[.slice none 0 0, .slice (some ⟨w.heap.size + 1, 0, none⟩) 1 1, ci 0] 28 (0, 0)) := by
    rw [hV]
    have := alloc_new ((w.alloc (.cells insA 69 (0, 0))).alloc (.cells (fnA w.heap.size) 46 (0, 0))) (.cells #[.slice none 0 0, .slice (some ⟨w.heap.size + 1, 0, none⟩) 1 1, ci 0] 28 (0, 0))
    simpa using this
  obtain ⟨P, hP⟩ : ∃ P, P = packS exI := ⟨_, rfl⟩
  have rt : RtI exI := rt_of (ex_ok 0) exI_right
  obtain ⟨u1, u2⟩ := unG_pack rt (by rw [exI_len]; decide)
  have pe : pkE exI = 0 := by unfold pkE; rw [if_neg (by rw [exI_right]; simp), if_neg (by rw [exI_len]; decide)]
  have pb : pkB exI = packS exI := by unfold pkB; rw [if_pos pe]
  have kp := pack_any exI (ex_ok 0) none (some ⟨w.heap.size + 1, 0, none⟩) 0 1 0 1 rfl rfl V (ex_iga 0 x0 x1) (tab_fr ht fV)
  rw [pe, pb, ← hP] at kp
  have hlP : P.length = 38 := by rw [hP, exI_len]
  have h4P : P.take 4 = [102, 105, 109, 103] := by rw [hP]; exact exI_mark
  rw [← hP] at u1 u2
  have ku := fun X (hX : Fr (fun _ => False) V X) ao cap (hb : BL X ao cap P) => unpack_any ao 38 cap P hlP X hb (tab_fr ht (fV.same hX))
  have kr := fun X (hX : F.Tab X) (h1 : X.heap[w.heap.size]? = some (.cells insA 69 (0, 0))) (h2 : X.heap[w.heap.size + 1]? = some (.cells (fnA w.heap.size) 46 (0, 0))) => right_any exJ (ex_ok 1) none (some ⟨w.heap.size + 1, 0, none⟩) 0 1 0 1 rfl rfl X (ex_iga 1 h1 h2) hX
  rw [exJ_right] at kr
  have ks := fun X => sum_any none 0 0 [] rfl X ⟨Nat.le_refl _, Nat.zero_le _, fun _ => rfl, Or.inl rfl⟩
  simp only [exI, exJ] at kp kr
  have hlPH : Hidden (P.length = 38) := hlP
  have h4PH : Hidden (P.take 4 = [102, 105, 109, 103]) := h4P
  have u1H : Hidden (unE P = 0) := u1
  have u2H : Hidden (unG P = exI) := u2
  have fVH : Hidden (Fr (fun _ => False) w V) := fV
  have hVH : Hidden (V = _) := hV
  have htw : Hidden (F.Tab w) := ht
  generalize hG : w.heap.size = G at *
  have hGH : Hidden (w.heap.size = G) := hG
  have x0H : Hidden (V.heap[G]? = some (.cells insA 69 (0, 0))) := x0
  have x1H : Hidden (V.heap[G + 1]? = some (.cells (fnA G) 46 (0, 0))) := x1
  have x2H : Hidden (V.heap[G + 1 + 1]? = some (.cells #[.slice none 0 0, .slice (some ⟨G + 1, 0, none⟩) 1 1, ci 0] 28 (0, 0))) := x2
  obtain ⟨z0, z1, z2⟩ := box3 x2
  clear ht hV fV x0 x1 x2 rt pe pb hP hlP h4P u1 u2 hG
  go_enter Tryz.func8, Tryz.ntmps8
  go_upto_region 2 with fail
  rw [show w.heap.size = G from hGH, ← (show V = _ from hVH)]
  clear hVH
  go_upto_region 4 with (first
    | (go_at_call 6; refine kp.mono ?_; rintro e w1 ⟨v, rfl, hb, f1⟩
       obtain ⟨ao, cap, hv, hbl⟩ := hb.bl
       rw [show P.length = 38 from hlPH] at hv
       subst hv
       have ku1 := ku w1 f1 ao cap hbl
       have hbH : Hidden (Bw w1 V.heap.size (.slice ao 38 cap) P) := hb
       have f1H : Hidden (Fr (fun _ => False) V w1) := f1
       clear hb hbl f1 kp ku z0 z1 z2)
    | (go_at_call 9; refine ku1.mono ?_; rintro e w2 ⟨va, fa, vc, fc, rfl, _, f2⟩
       rw [show unG P = exI from u2H, show unE P = 0 from u1H, show exI.vars.length = 0 from rfl, show exI.fns.length = 1 from rfl, show exI.mn = 0 from rfl]
       have f2H : Hidden (Fr (fun _ => False) w1 w2) := f2
       clear f2 ku1))
  obtain ⟨Z, hZ⟩ : ∃ Z, Z = w2.alloc (.cells #[.slice va 0 vc, .slice fa 1 fc, .int .i64 0] 28 (0, 0)) := ⟨_, rfl⟩
  have fZ : Fr (fun _ => False) w2 Z := by rw [hZ]; exact Fr.alloc _ _ _
  have xZ : Z.heap[w2.heap.size]? = some (.cells #[.slice va 0 vc, .slice fa 1 fc, .int .i64 0] 28 (0, 0)) := by rw [hZ]; exact alloc_new _ _
  have f1Z : Fr (fun _ => False) w1 Z := (show Fr (fun _ => False) w1 w2 from f2H).same fZ
  have fVZ : Fr (fun _ => False) V Z := (show Fr (fun _ => False) V w1 from f1H).same f1Z
  have x2Z := fVZ.heap (show V.heap[G + 1 + 1]? = _ from x2H) (fun f => f)
  have hVlt : G + 1 + 1 < V.heap.size := lt_of_heap (show V.heap[G + 1 + 1]? = _ from x2H)
  have hElt : V.heap.size ≤ w2.heap.size := (show Fr (fun _ => False) V w1 from f1H).size |> fun h => Nat.le_trans h (show Fr (fun _ => False) w1 w2 from f2H).size
  obtain ⟨Y, hY⟩ : ∃ Y, Y = Z.setCell ⟨G + 1 + 1, 2, none⟩ (ci 1) := ⟨_, rfl⟩
  have fY : Fr (fun k => k = G + 1 + 1) Z Y := by rw [hY]; exact Fr.setCell Z ⟨G + 1 + 1, 2, none⟩ _
  have x2Y : Y.heap[G + 1 + 1]? = some (.cells #[.slice none 0 0, .slice (some ⟨G + 1, 0, none⟩) 1 1, ci 1] 28 (0, 0)) := by rw [hY]; exact heap_setCell_same Z (G + 1 + 1) 2 _ _ _ x2Z
  have xEY := fY.heap xZ (fun e => by omega)
  have hbY : Bw Y V.heap.size (.slice ao 38 cap) P := own_keepB ((show Bw w1 V.heap.size _ P from hbH).keepN f1Z) fY hVlt
  have hblY : BL Y ao cap P := by
    obtain ⟨a', c', e, h⟩ := hbY.bl
    simp only [Value.slice.injEq] at e
    obtain ⟨rfl, _, rfl⟩ := e
    exact h
  have hs : (convert 30 9 (.slice ao 4 cap)).run Tryz.prog Y = .ok (.string ⟨#[102, 105, 109, 103]⟩) Y := by
    have h := run_strI Y (.slice ao (P.take 4).length cap) (P.take 4) (sl_of (bl_front hblY 4))
    rw [show P.take 4 = _ from h4PH] at h
    exact h
  have hcap : 38 ≤ cap := by rw [← (show P.length = 38 from hlPH)]; exact hblY.1
  have hcapm : cap ≤ 9223372036854775807 := by have := hblY.2.1; simpa [maxLen] using this
  have hc4 : (4 : Int) ≤ (cap : Int) := by omega
  have fwY : Fr (fun _ => False) w Y := ((show Fr (fun _ => False) w V from fVH).same fVZ).over fY (fun k e => by have : w.heap.size = G := hGH; omega)
  have fVY : Fr (fun k => k = G + 1 + 1) V Y := (fVZ.mono (fun _ _ f => f.elim)).same fY
  have kr1 := kr Y (by
    exact tab_fr (show F.Tab w from htw) fwY) (fVY.heap (show V.heap[G]? = _ from x0H) (by omega)) (fVY.heap (show V.heap[G + 1]? = _ from x1H) (by omega))
  rw [← hZ]
  obtain ⟨z0, z1, z2⟩ := box3 x2Z
  obtain ⟨y0, y1, y2⟩ := frozen3 x2Z
  have hYH : Hidden (Y = _) := hY
  have fwYH : Hidden (Fr (fun _ => False) w Y) := fwY
  generalize w2.heap.size = E at *
  clear kr hZ fZ xZ f1Z fVZ x2Z hY fY hbY hblY fwY fVY hcap hVlt hElt
  go_upto_region 5 with fail
  rw [← (show Y = _ from hYH)]
  obtain ⟨s0, s1, s2⟩ := box3 x2Y
  obtain ⟨t0, t1, t2⟩ := box3 xEY
  clear z0 z1 z2 y0 y1 y2 hYH x2Y xEY
  go_wp2_with (first
    | (go_at_call 7; refine kr1.mono ?_; rintro e w5 ⟨rfl, f5⟩
       have f5H : Hidden (Fr (fun _ => False) Y w5) := f5
       clear f5 kr1)
    | (go_at_call 19; refine (ks _).mono ?_; rintro e w6 ⟨rfl, rfl⟩))
  trace_state
  go_ret
  exact ⟨rfl, (show Fr (fun _ => False) w Y from fwYH).same f5H⟩
end Go.Proofs.YtoiglopilpoafaaGreatDoor.Im
