/- CodePatches, walked. -/
import Derived.Test.YticpiaonkgomfaaDoorCdPb
namespace Go.Proofs.YticpiaonkgomfaaDoor.Cd
open Go.RowKit Ty
set_option linter.unusedSimpArgs false
set_option linter.unusedVariables false

set_option maxRecDepth 20000 in
set_option maxHeartbeats 8000000 in
theorem patches_walk (ao : Option Addr) (m cap : Nat) (l : List In) (a n : Int) (W : World) (hm : l.length = m) (hl : IL W ao cap l) (hok : ∀ i ∈ l, OkIn i) (hm2 : m ≤ 4398046510976) (ht : F.Tab W) :
    Calls Tryd.prog 5 #[.slice ao m cap, ci a, ci n] W fun e w' => e = .returned (.bool true) ∧ Fr (fun _ => False) W w' := by
  have hub : ∀ i ∈ l, U64 i.b := fun i hi => (hok i hi).b
  have km := mine_any ao m cap l hm W hl hm2
  have hlH : Hidden (IL W ao cap l) := hl
  have hmH : Hidden (l.length = m) := hm
  have hubH : Hidden (∀ i ∈ l, U64 i.b) := hub
  clear hl hm hok hub
  go_enter Tryd.func5, Tryd.ntmps5
  go_wp2_with fail
  go_at_call 18
  refine km.mono ?_
  rintro e w2 ⟨ov, rfl, hO, f2⟩
  have fw2 : Hidden (Fr (fun _ => False) W w2) := f2
  obtain ⟨oo, co, rfl, hil⟩ := hO.il
  rw [show l.length = m from hmH]
  have ilH : Hidden (IL w2 oo co l) := hil
  have kp := patch_any oo m co l hmH a n w2 hil hubH hm2
  clear km f2 hO hil
  go_wp2_with fail
  go_at_call 19
  refine kp.mono ?_
  rintro e w3 ⟨av, rfl, hA, f3⟩
  have fw3 : Hidden (Fr (fun _ => False) w2 w3) := f3
  have kr := rpatch_any ao m cap l hmH a n w3 ((show IL W ao cap l from hlH).keep ((show Fr _ W w2 from fw2).same f3)) hubH hm2
  obtain ⟨E, hE⟩ : ∃ E, (patS l a n).1 = E := ⟨_, rfl⟩
  obtain ⟨L, hL⟩ : ∃ L, (patS l a n).2 = L := ⟨_, rfl⟩
  rw [hE] at kr ⊢
  rw [hL] at kr hA
  obtain ⟨q, hq⟩ : ∃ q, L.length = q := ⟨_, rfl⟩
  have hqH : Hidden (L.length = q) := hq
  obtain ⟨aa, ca, rfl, hila⟩ := hA.il
  have hAH : Hidden (IW w3 w2.heap.size 27 (.slice aa L.length ca) L) := hA
  rw [hq] at hAH ⊢
  have ilaH : Hidden (IL w3 aa ca L) := hila
  have hqc : q ≤ ca := by rw [← hq]; exact hila.1
  have hcm : ca ≤ 9223372036854775807 := by have := hila.2.1; simpa [maxLen] using this
  clear kp hE hL f3 hA hila hq
  go_wp2_with fail
  go_at_call 20
  refine kr.mono ?_
  rintro e w4 ⟨bv, rfl, hB, f4⟩
  obtain ⟨ba, cb, rfl, hilb⟩ := hB.il
  rw [show L.length = q from hqH]
  have kS := sameCode_any aa ba q q ca cb L L hqH hqH true (show _ = _ by simp) w4 ((show IL w3 aa ca L from ilaH).keep f4) hilb
  have fw4 : Hidden (Fr (fun _ => False) w2 w4) := (show Fr _ w2 w3 from fw3).same f4
  have f34 : Hidden (Fr (fun _ => False) w3 w4) := f4
  clear kr hB hilb f4
  go_wp2_with fail
  go_at_call 17
  refine kS.mono ?_
  rintro e w5 ⟨rfl, f5⟩
  have fw5 : Hidden (Fr (fun _ => False) w2 w5) := (show Fr _ w2 w4 from fw4).same f5
  have f35 : Hidden (Fr (fun _ => False) w3 w5) := (show Fr _ w3 w4 from f34).same f5
  have kS2 := sameCode_any oo ao m m co cap l l hmH hmH true (show _ = _ by simp) w5 ((show IL w2 oo co l from ilH).keep fw5) ((show IL W ao cap l from hlH).keep ((show Fr _ W w2 from fw2).same fw5))
  clear kS f5 fw4 f34
  go_wp2_with fail
  go_at_call 17
  refine kS2.mono ?_
  rintro e w6 ⟨rfl, f6⟩
  have fw6 : Hidden (Fr (fun _ => False) w2 w6) := (show Fr _ w2 w5 from fw5).same f6
  have hA6 : Hidden (w6.ownsRow w2.heap.size 27 4 (.slice aa q ca) q (L.flatMap inC)) := by
    have h1 := own_keep (show IW w3 _ _ _ L from hAH) ((show Fr _ w3 w5 from f35).same f6) (fun _ _ f => f)
    rw [show L.length = q from hqH] at h1
    exact h1
  have hlow : Hidden (∀ k, (Value.slice aa q ca).ownBlock = some k → w2.heap.size ≤ k ∧ k < w6.heap.size) := own_block hA6
  clear kS2 f6 fw5 f35
  go_wp2_with fail
  go_loopg [12] q (fun k iv wr => ∃ (j : Nat) (cells : List Value), iv = .int .i64 (j : Int) ∧ j ≤ q ∧ k = q - j ∧ wr.ownsRow w2.heap.size 27 4 (.slice aa q ca) q cells ∧ Fr (fun k => (Value.slice aa q ca).ownBlock = some k) w6 wr)
  case atStart => exact ⟨0, _, rfl, by omega, rfl, hA6, Fr.refl _ _⟩
  case round =>
    obtain ⟨j, cells, rfl, hj, hk, hO, hf⟩ := hrel
    have hkH : Hidden (gk = q - j) := hk
    have hfH : Hidden (Fr (fun k => (Value.slice aa q ca).ownBlock = some k) w6 wr) := hf
    clear hk
    by_cases hjl : j < q
    · have hcl : cells.length = q * 4 := hO.1
      obtain ⟨g, cap', cur, hv, _, _, _, _, hgc, hgf, hgs⟩ := own_at hO (j * 4) (by omega)
      simp only [Value.slice.injEq, true_and] at hv
      obtain ⟨rfl, rfl⟩ := hv
      obtain ⟨u, hu⟩ : ∃ u, cells[j * 4]? = some u := ⟨_, List.getElem?_eq_getElem (by omega)⟩
      have c0 := hgc _ _ hu
      have fz := hgf (j * 4)
      have hgsH : Hidden _ := hgs
      clear hu hcl hgc hgf hgs hO hf
      go_wp2_with fail
      go_roundg (q - (j + 1))
      case measure => have : gk = q - j := hkH; omega
      case rel =>
        exact ⟨j + 1, _, by go_num, by omega, rfl, hgsH _, (show Fr _ w6 wr from hfH).same ((Fr.setCell wr ⟨g, j * 4, none⟩ _).mono (fun k _ e => by have : k = g := e; subst this; rfl))⟩
    · obtain rfl : j = q := by omega
      have f2r : Fr (fun _ => False) w2 wr := (show Fr _ w2 w6 from fw6).over hf (fun k e => ((show ∀ k, _ → _ from hlow) k e).1)
      have fWr := (show Fr (fun _ => False) W w2 from fw2).same f2r
      have kS3 := sameCode_any oo ao m m co cap l l hmH hmH true (show _ = _ by simp) wr ((show IL w2 oo co l from ilH).keep f2r) ((show IL W ao cap l from hlH).keep fWr)
      clear hjl hf hO f2r
      go_wp2_with fail
      go_at_call 17
      refine kS3.mono ?_
      rintro e w7 ⟨rfl, f7⟩
      have fw7 := fWr.same f7
      have klive := live_any w7 (tab_fr ht fw7)
      clear kS3 f7 fWr
      go_wp2_with fail
      go_at_call 14
      refine klive.mono ?_
      rintro e w8 ⟨rfl, f8⟩
      go_wp2_with fail
      go_ret
      exact ⟨rfl, fw7.same f8⟩
end Go.Proofs.YticpiaonkgomfaaDoor.Cd
namespace Go.Proofs.YticpiaonkgomfaaDoor.codePatches
open Go.RowKit Ty Cd
theorem walk (v : Value) (l : List In) (a n : Int) (W : World) (hx : InsA W v l) (_ : (Lit.int .i64 a).wf = true) (_ : (Lit.int .i64 n).wf = true) (ht : F.Tab W) : Calls Tryd.prog 5 #[v, .int .i64 a, .int .i64 n] W fun e w' => e = .returned (.bool true) ∧ Fr (fun _ => False) W w' := by
  obtain ⟨ao, cap, rfl, h1, h2, h3⟩ := hx
  exact patches_walk ao l.length cap l a n W rfl h1 h2 h3 ht
end Go.Proofs.YticpiaonkgomfaaDoor.codePatches
