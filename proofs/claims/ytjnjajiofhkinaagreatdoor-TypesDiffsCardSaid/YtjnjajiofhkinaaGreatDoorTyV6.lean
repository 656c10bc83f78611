/- The law TypesDiffs. -/
import Derived.Test.YtjnjajiofhkinaaGreatDoorTyE2
import Derived.Test.YtjnjajiofhkinaaGreatDoorTyQ
import Derived.Test.YtjnjajiofhkinaaGreatDoorTyIn
import Derived.Test.YtjnjajiofhkinaaGreatDoorTrG
namespace Go.Proofs.YtjnjajiofhkinaaGreatDoor.typesDiffs
open Go.RowKit Ty
set_option linter.unusedSimpArgs false
set_option linter.unusedVariables false

theorem len_all {l : List It} {B : Nat} (h : (l.map bkI).sum ≤ B) : l.length ≤ B ∧ ∀ i ∈ l, i.params.length ≤ B := by
  induction l generalizing B with
  | nil => exact ⟨by simp, by simp⟩
  | cons i r ih =>
    simp only [List.map_cons, List.sum_cons] at h
    have hb : 1 + i.params.length ≤ bkI i := by unfold bkI; omega
    obtain ⟨h1, h2⟩ := ih (B := B - bkI i) (by omega)
    refine ⟨by simp only [List.length_cons]; omega, fun x hx => ?_⟩
    rcases List.mem_cons.1 hx with rfl | hx
    · omega
    · have := h2 x hx; omega
theorem inl_five {w : World} {ao : Option Addr} {cap : Nat} {l : List Int} (h : InL w ao cap l) {g : Nat} (hn : ∀ b off, ao = some ⟨b, off, none⟩ → g < b) (v0 v1 v2 v3 v4 : Value) :
    InL (((((w.setCell ⟨g, 0, none⟩ v0).setCell ⟨g, 1, none⟩ v1).setCell ⟨g, 2, none⟩ v2).setCell ⟨g, 3, none⟩ v3).setCell ⟨g, 4, none⟩ v4) ao cap l := by
  have hf := ((((Fr.setCell w ⟨g, 0, none⟩ v0).same (Fr.setCell _ ⟨g, 1, none⟩ v1)).same (Fr.setCell _ ⟨g, 2, none⟩ v2)).same (Fr.setCell _ ⟨g, 3, none⟩ v3)).same (Fr.setCell _ ⟨g, 4, none⟩ v4)
  obtain ⟨h1, h2, h3, h4⟩ := h
  refine ⟨h1, h2, h3, ?_⟩
  rcases h4 with h4 | ⟨b, off, rfl, h4⟩
  · exact Or.inl h4
  · have := hn b off rfl
    exact Or.inr ⟨b, off, rfl, fun i x hx => hf.cell (h4 i x hx) (fun e => by have e : b = g := e; omega)⟩
set_option maxRecDepth 20000 in
set_option maxHeartbeats 8000000 in
theorem walkB (v1 : Value) (f : Fc) (v2 : Value) (g : Fc) (w : World) (hf : FcI w f v1) (okf : OkN f.name ∧ ∀ p ∈ f.items, OkI p) (blf : f.items.length ≤ 2199023255552 ∧ ∀ i ∈ f.items, i.params.length ≤ 17592186044416) (hg : FcI w g v2) (okg : OkN g.name ∧ ∀ p ∈ g.items, OkI p) (blg : g.items.length ≤ 2199023255552 ∧ ∀ i ∈ g.items, i.params.length ≤ 17592186044416) (ht : F.Tab w) :
    Calls Tryz.prog 4 #[v1, v2] w fun e w' => e = .returned (.bool true) ∧ Fr (fun _ => False) w w' := by
  obtain ⟨lf, pf⟩ := blf
  obtain ⟨lg, pg⟩ := blg
  have kl := fun (w1 : World) (h : Fr (fun _ => False) w w1) => live_any w1 (tab_fr ht h)
  have kd := fun (w1 : World) (h : Fr (fun _ => False) w w1) => diff_any f g v1 v2 w1 (hf.keep h) (hg.keep h) okf.2 okg.2 (by omega) (by omega)
  have kd2 := fun (w1 : World) (h : Fr (fun _ => False) w w1) => diff_any f f v1 v1 w1 (hf.keep h) (hf.keep h) okf.2 okf.2 (by omega) (by omega)
  have kd3 := fun (w1 : World) (h : Fr (fun _ => False) w w1) => diff_any g f v2 v1 w1 (hg.keep h) (hf.keep h) okg.2 okf.2 (by omega) (by omega)
  have kg1 := fun (s : Bs) (w1 : World) (h : Fr (fun _ => False) w w1) => get_any f v1 s w1 (hf.keep h) (fun i hi => by have := pf i hi; omega)
  have kg2 := fun (s : Bs) (w1 : World) (h : Fr (fun _ => False) w w1) => get_any g v2 s w1 (hg.keep h) (fun i hi => by have := pg i hi; omega)
  have kr1 := fun (w1 : World) (h : Fr (fun _ => False) w w1) => rightIface_any f v1 w1 (hf.keep h) okf.1 okf.2
  have kr2 := fun (w1 : World) (h : Fr (fun _ => False) w w1) => rightIface_any g v2 w1 (hg.keep h) okg.1 okg.2
  have ksm := fun (w1 : World) (h : Fr (fun _ => False) w w1) => sameIface_any f g v1 v2 w1 (hf.keep h) (hg.keep h)
  rw [diffS_self] at kd2
  rw [diffS_comm] at kd3
  have hdl := fun (h1 : rightF f = 0) (h2 : rightF g = 0) (h3 : f.name = g.name) => diff_nil h1 h2 h3
  have hmem := fun x => (mem_diffS (l1 := f.items) (l2 := g.items) (x := x)).1
  have hss : U.SS (diffS f.items g.items) := U.setS_ss _
  generalize diffS f.items g.items = d at kd kd3 hdl hmem hss
  obtain ⟨ao1, cap1, rfl, i1⟩ := hf
  obtain ⟨ao2, cap2, rfl, i2⟩ := hg
  obtain ⟨n1, l1⟩ := f
  obtain ⟨n2, l2⟩ := g
  simp only at *
  generalize rightF ⟨n1, l1⟩ = r1 at kr1 hdl
  generalize rightF ⟨n2, l2⟩ = r2 at kr2 hdl
  generalize decide ((⟨n1, l1⟩ : Fc) = ⟨n2, l2⟩) = sm at ksm hdl
  have hdlH : Hidden (r1 = 0 → r2 = 0 → n1 = n2 → decide (d.length = 0) = sm) := hdl
  have hmemH : Hidden (∀ x, x ∈ d → firstI l1 x ≠ firstI l2 x) := hmem
  have hssH : Hidden (U.SS d) := hss
  clear i1 i2 okf okg ht hdl hmem hss lf lg pf pg
  obtain ⟨W0, hW0⟩ : ∃ W, W = (w.alloc (.cells #[ct n1, .slice ao1 l1.length cap1] 24)).alloc (.cells #[ct n2, .slice ao2 l2.length cap2] 24) := ⟨_, rfl⟩
  have s1 := Fr.alloc (fun _ => False) w (.cells #[ct n1, .slice ao1 l1.length cap1] 24)
  have s2 : Fr (fun _ => False) (w.alloc (.cells #[ct n1, .slice ao1 l1.length cap1] 24)) W0 := by rw [hW0]; exact Fr.alloc _ _ _
  have f0 : Fr (fun _ => False) w W0 := s1.same s2
  have hb1 : W0.heap[w.heap.size]? = some (.cells #[ct n1, .slice ao1 l1.length cap1] 24 (0, 0)) := s2.heap (alloc_new _ _) (fun f => f)
  have hb2 : W0.heap[w.heap.size + 1]? = some (.cells #[ct n2, .slice ao2 l2.length cap2] 24 (0, 0)) := by rw [hW0]; exact alloc_at _ _ _ (by simp)
  obtain ⟨c0, c1⟩ := box2 hb1
  obtain ⟨d0, d1⟩ := box2 hb2
  have hW0H : Hidden (W0 = _) := hW0
  clear hb1 hb2 s1 s2 hW0
  go_enter Tryz.func4, Tryz.ntmps4
  go_wp2_with fail
  rw [← (show W0 = _ from hW0H)]
  go_at_call 18
  refine (kl _ f0).mono ?_
  rintro e w1 ⟨rfl, f1⟩
  have g1 := f0.same f1
  replace c0 := f1.cellN c0
  replace c1 := f1.cellN c1
  replace d0 := f1.cellN d0
  replace d1 := f1.cellN d1
  go_wp2_with fail
  go_at_call 13
  refine (kd _ g1).mono ?_
  rintro e w2 ⟨vd, rfl, td, f2⟩
  have g2 := g1.same f2
  replace c0 := f2.cellN c0
  replace c1 := f2.cellN c1
  replace d0 := f2.cellN d0
  replace d1 := f2.cellN d1
  have tdH : Hidden (U.Tl w2 vd d) := td.tl
  clear td
  go_wp2_with fail
  go_at_call 13
  refine (kd2 _ g2).mono ?_
  rintro e w3 ⟨v0, rfl, t0, f3⟩
  have g3 := g2.same f3
  replace c0 := f3.cellN c0
  replace c1 := f3.cellN c1
  replace d0 := f3.cellN d0
  replace d1 := f3.cellN d1
  obtain ⟨a0, k0, rfl, _, hk0, _⟩ := t0
  simp only [List.length_nil]
  go_wp2_with fail
  go_at_call 13
  refine (kd3 _ g3).mono ?_
  rintro e w4 ⟨v4, rfl, t4, f4⟩
  have g4 := g3.same f4
  replace c0 := f4.cellN c0
  replace c1 := f4.cellN c1
  replace d0 := f4.cellN d0
  replace d1 := f4.cellN d1
  have kt := Ty.texts_is vd v4 d d w4 ((show U.Tl w2 vd d from tdH).later (fr_u (f3.same f4))) t4.tl true (by simp)
  go_wp2_with fail
  go_at_call 12
  refine kt.mono ?_
  rintro e w5 ⟨rfl, f5⟩
  have g5 := g4.same f5
  replace c0 := f5.cellN c0
  replace c1 := f5.cellN c1
  replace d0 := f5.cellN d0
  replace d1 := f5.cellN d1
  have tl5 : U.Tl w5 vd d := (show U.Tl w2 vd d from tdH).later (fr_u ((f3.same f4).same f5))
  obtain ⟨aod, capd, rfl, e1, e2, e3, e4⟩ := tl5
  have tl5H : Hidden (d = [] ∨ ∃ b off, aod = some ⟨b, off, none⟩ ∧ ∀ (i : Nat) (x : Bs), d[i]? = some x → w5.cell? ⟨b, off + i, none⟩ = some (ct x)) := e4
  have c0H : Hidden (w5.cell? ⟨w.heap.size, 0, none⟩ = _) := c0
  have c1H : Hidden (w5.cell? ⟨w.heap.size, 1, none⟩ = _) := c1
  have d0H : Hidden (w5.cell? ⟨w.heap.size + 1, 0, none⟩ = _) := d0
  have d1H : Hidden (w5.cell? ⟨w.heap.size + 1, 1, none⟩ = _) := d1
  have g5H : Hidden (Fr (fun _ => False) w w5) := g5
  clear e3 e4 kl kd kd2 kd3 kt t4 f1 f2 f3 f4 f5 g1 g2 g3 g4 tdH c0 c1 d0 d1 g5 hk0
  go_wp2_with fail
  go_loopg [6] d.length (fun gg iv wr => ∃ j : Nat, iv = ci (j : Int) ∧ j ≤ d.length ∧ gg = d.length - j ∧ Fr (fun _ => False) w5 wr)
  case atStart => exact ⟨0, rfl, by omega, rfl, Fr.refl _ _⟩
  case round =>
    obtain ⟨j, rfl, hj, hgk, hfr⟩ := hrel
    have hgkH : Hidden (gk = d.length - j) := hgk
    have hfrH : Hidden (Fr (fun _ => False) w5 wr) := hfr
    clear hgk
    by_cases hjl : j < d.length
    · obtain ⟨x, hx⟩ : ∃ x, d[j]? = some x := ⟨d[j], List.getElem?_eq_getElem hjl⟩
      rcases (show d = [] ∨ _ from tl5H) with h0 | ⟨bd, offd, rfl, hcd⟩
      · rw [h0] at hx; simp at hx
      have y0 : wr.cell? ⟨bd, offd + j, none⟩ = some (ct x) := hfr.cellN (hcd j x hx)
      have c0 : wr.cell? ⟨w.heap.size, 0, none⟩ = some (ct n1) := hfr.cellN c0H
      have c1 : wr.cell? ⟨w.heap.size, 1, none⟩ = some (.slice ao1 l1.length cap1) := hfr.cellN c1H
      have d0 : wr.cell? ⟨w.heap.size + 1, 0, none⟩ = some (ct n2) := hfr.cellN d0H
      have d1 : wr.cell? ⟨w.heap.size + 1, 1, none⟩ = some (.slice ao2 l2.length cap2) := hfr.cellN d1H
      have gr : Fr (fun _ => False) w wr := (show Fr (fun _ => False) w w5 from g5H).same hfr
      have hdif : Hidden (firstI l1 x ≠ firstI l2 x) := (show ∀ x, x ∈ d → _ from hmemH) x (List.mem_of_getElem? hx)
      obtain ⟨⟨pk, pn, pt, pb, pl⟩, hp⟩ : ∃ p, p = (firstI l1 x).getD zeroI := ⟨_, rfl⟩
      obtain ⟨⟨qk, qn, qt, qb, ql⟩, hq⟩ : ∃ q, q = (firstI l2 x).getD zeroI := ⟨_, rfl⟩
      obtain ⟨is1, hi1⟩ : ∃ b, b = (firstI l1 x).isSome := ⟨_, rfl⟩
      obtain ⟨is2, hi2⟩ : ∃ b, b = (firstI l2 x).isSome := ⟨_, rfl⟩
      have kp : ∀ w1, Fr (fun _ => False) w w1 → Calls Tryz.prog 5 #[.agg #[ct n1, .slice ao1 l1.length cap1], ct x] w1 fun e w' => ∃ pa pc, e = .returned (.tuple #[.agg #[ci pk, ct pn, ci pt, .int .u64 pb, .slice pa pl.length pc], .bool is1]) ∧ InL w' pa pc pl ∧ (∀ b off, pa = some ⟨b, off, none⟩ → w1.heap.size ≤ b) ∧ Fr (fun _ => False) w1 w' := fun w1 h => (kg1 x w1 h).mono (by
        rintro e w' ⟨v, rfl, hv, hf⟩
        rw [← hi1]
        rw [← hp] at hv
        obtain ⟨ao, cap, rfl, h1⟩ := hv
        obtain ⟨ao', cap', e, h2, h3⟩ := own_ints h1
        simp only [Value.slice.injEq, true_and] at e
        obtain ⟨rfl, rfl⟩ := e
        exact ⟨_, _, rfl, h2, fun b off e => h3 b (by rw [e]; rfl), hf⟩)
      have kq : ∀ w1, Fr (fun _ => False) w w1 → Calls Tryz.prog 5 #[.agg #[ct n2, .slice ao2 l2.length cap2], ct x] w1 fun e w' => ∃ pa pc, e = .returned (.tuple #[.agg #[ci qk, ct qn, ci qt, .int .u64 qb, .slice pa ql.length pc], .bool is2]) ∧ InL w' pa pc ql ∧ (∀ b off, pa = some ⟨b, off, none⟩ → w1.heap.size ≤ b) ∧ Fr (fun _ => False) w1 w' := fun w1 h => (kg2 x w1 h).mono (by
        rintro e w' ⟨v, rfl, hv, hf⟩
        rw [← hi2]
        rw [← hq] at hv
        obtain ⟨ao, cap, rfl, h1⟩ := hv
        obtain ⟨ao', cap', e, h2, h3⟩ := own_ints h1
        simp only [Value.slice.injEq, true_and] at e
        obtain ⟨rfl, rfl⟩ := e
        exact ⟨_, _, rfl, h2, fun b off e => h3 b (by rw [e]; rfl), hf⟩)
      have hpqH : Hidden (is1 = is2 → (⟨pk, pn, pt, pb, pl⟩ : It) ≠ ⟨qk, qn, qt, qb, ql⟩) := fun e h => by
        rw [hp, hq] at h
        rw [hi1, hi2] at e
        refine (show firstI l1 x ≠ firstI l2 x from hdif) ?_
        generalize firstI l1 x = o1 at e h
        generalize firstI l2 x = o2 at e h
        cases o1 <;> cases o2 <;> simp at e h ⊢
        exact h
      clear hp hq hi1 hi2 kg1 kg2
      go_upto_region 9 with fail
      go_cut [7, 8] (fun pv bv wx => bv = .bool is1 ∧ ∃ g pa pc, pv = .pointer (some ⟨g, 0, none⟩) ∧ wx.heap[g]? = some (.cells #[ci pk, ct pn, ci pt, .int .u64 pb, .slice pa pl.length pc] 28 (0, 0)) ∧ InL wx pa pc pl ∧ Fr (fun _ => False) wr wx)
      case first =>
        clear hpqH hdif kq kr1 kr2 ksm
        have m0 : wr.heap.size ≠ w.heap.size := World.new_ne wr _ c0
        have m2 : wr.heap.size ≠ bd := World.new_ne wr _ y0
        go_region_held3 (fun w' => w'.cell? ⟨w.heap.size, 0, none⟩ = some (ct n1) ∧ w'.cell? ⟨w.heap.size, 1, none⟩ = some (.slice ao1 l1.length cap1) ∧ w'.cell? ⟨bd, offd + j, none⟩ = some (ct x)) (first | (refine ⟨by with_reducible assumption, by with_reducible assumption, by with_reducible assumption⟩) | go_keep) (first
          | (go_at_call 5; (go_split_ands); with_reducible (refine Calls.mono (kp wr.drew (gr.same (Fr.drew _ wr))) ?_); rintro e w6 ⟨pa, pc, rfl, hpo, hpn, f6⟩; have g6 := (Fr.drew (fun _ => False) wr).same f6; have q0 := g6.cellN c0; have q1 := g6.cellN c1; have q2 := g6.cellN y0; have m0 : w6.heap.size ≠ w.heap.size := World.new_ne w6 _ q0; have m2 : w6.heap.size ≠ bd := World.new_ne w6 _ q2)
          | (go_at_call 5; (go_split_ands); with_reducible (refine Calls.mono (kp (wr.alloc (.cells #[.int .i64 0, .string ⟨#[]⟩, .int .i64 0, .int .u64 0, .slice none 0 0] 28)).drew (gr.same ((Fr.alloc _ wr _).same (Fr.drew _ _)))) ?_); rintro e w6 ⟨pa, pc, rfl, hpo, hpn, f6⟩; have g6 := ((Fr.alloc (fun _ => False) wr (.cells #[.int .i64 0, .string ⟨#[]⟩, .int .i64 0, .int .u64 0, .slice none 0 0] 28)).same (Fr.drew _ _)).same f6; have q0 := g6.cellN c0; have q1 := g6.cellN c1; have q2 := g6.cellN y0; have hz : w6.heap[wr.heap.size]? = some (.cells #[.int .i64 0, .string ⟨#[]⟩, .int .i64 0, .int .u64 0, .slice none 0 0] 28 (0, 0)) := f6.heap (show (wr.alloc _).drew.heap[wr.heap.size]? = _ from alloc_new _ _) (fun f => f); obtain ⟨z0, z1, z2, z3, z4⟩ := box5 hz; have k0 := frozen_row hz 0; have k1 := frozen_row hz 1; have k2 := frozen_row hz 2; have k3 := frozen_row hz 3; have k4 := frozen_row hz 4))
        all_goals go_wp2_with fail
        all_goals go_meet
        · exact ⟨rfl, _, pa, pc, rfl, alloc_new _ _, hpo.keep (Fr.alloc _ _ _), g6.same (Fr.alloc _ _ _)⟩
        · exact ⟨rfl, _, pa, pc, rfl, set_five hz _ _ _ _ _, inl_five hpo (fun b off e => by have := hpn b off e; simp at this; omega) _ _ _ _ _, fr_five g6 (Nat.le_refl _) _ _ _ _ _⟩
      case rest =>
      obtain ⟨rfl, gp, pa, pc, rfl, hB1, hI1, fa⟩ := hcut
      obtain ⟨wa, ewa⟩ : ∃ wa, wa = wc := ⟨_, rfl⟩
      subst ewa
      replace gr := gr.same fa
      replace y0 := fa.cellN y0
      replace c0 := fa.cellN c0
      replace c1 := fa.cellN c1
      replace d0 := fa.cellN d0
      replace d1 := fa.cellN d1
      have hB1H : Hidden (wa.heap[gp]? = _) := hB1
      clear hB1 kp
      go_upto_region 10 with fail
      go_cut [9, 10] (fun pv bv wx => bv = .bool is2 ∧ ∃ g pa pc, pv = .pointer (some ⟨g, 0, none⟩) ∧ wx.heap[g]? = some (.cells #[ci qk, ct qn, ci qt, .int .u64 qb, .slice pa ql.length pc] 28 (0, 0)) ∧ InL wx pa pc ql ∧ Fr (fun _ => False) wa wx)
      case first =>
        clear hpqH hdif kr1 kr2 ksm
        have m0 : wa.heap.size ≠ w.heap.size + 1 := World.new_ne wa _ d0
        have m2 : wa.heap.size ≠ bd := World.new_ne wa _ y0
        go_region_held3 (fun w' => w'.cell? ⟨w.heap.size + 1, 0, none⟩ = some (ct n2) ∧ w'.cell? ⟨w.heap.size + 1, 1, none⟩ = some (.slice ao2 l2.length cap2) ∧ w'.cell? ⟨bd, offd + j, none⟩ = some (ct x)) (first | (refine ⟨by with_reducible assumption, by with_reducible assumption, by with_reducible assumption⟩) | go_keep) (first
          | (go_at_call 5; (go_split_ands); with_reducible (refine Calls.mono (kq wa.drew (gr.same (Fr.drew _ wa))) ?_); rintro e w6 ⟨pa, pc, rfl, hpo, hpn, f6⟩; have g6 := (Fr.drew (fun _ => False) wa).same f6; have q0 := g6.cellN d0; have q1 := g6.cellN d1; have q2 := g6.cellN y0; have m0 : w6.heap.size ≠ w.heap.size + 1 := World.new_ne w6 _ q0; have m2 : w6.heap.size ≠ bd := World.new_ne w6 _ q2)
          | (go_at_call 5; (go_split_ands); with_reducible (refine Calls.mono (kq (wa.alloc (.cells #[.int .i64 0, .string ⟨#[]⟩, .int .i64 0, .int .u64 0, .slice none 0 0] 28)).drew (gr.same ((Fr.alloc _ wa _).same (Fr.drew _ _)))) ?_); rintro e w6 ⟨pa, pc, rfl, hpo, hpn, f6⟩; have g6 := ((Fr.alloc (fun _ => False) wa (.cells #[.int .i64 0, .string ⟨#[]⟩, .int .i64 0, .int .u64 0, .slice none 0 0] 28)).same (Fr.drew _ _)).same f6; have q0 := g6.cellN d0; have q1 := g6.cellN d1; have q2 := g6.cellN y0; have hz : w6.heap[wa.heap.size]? = some (.cells #[.int .i64 0, .string ⟨#[]⟩, .int .i64 0, .int .u64 0, .slice none 0 0] 28 (0, 0)) := f6.heap (show (wa.alloc _).drew.heap[wa.heap.size]? = _ from alloc_new _ _) (fun f => f); obtain ⟨z0, z1, z2, z3, z4⟩ := box5 hz; have k0 := frozen_row hz 0; have k1 := frozen_row hz 1; have k2 := frozen_row hz 2; have k3 := frozen_row hz 3; have k4 := frozen_row hz 4))
        all_goals go_wp2_with fail
        all_goals go_meet
        · exact ⟨rfl, _, pa, pc, rfl, alloc_new _ _, hpo.keep (Fr.alloc _ _ _), g6.same (Fr.alloc _ _ _)⟩
        · exact ⟨rfl, _, pa, pc, rfl, set_five hz _ _ _ _ _, inl_five hpo (fun b off e => by have := hpn b off e; simp at this; omega) _ _ _ _ _, fr_five g6 (Nat.le_refl _) _ _ _ _ _⟩
      case rest =>
      obtain ⟨rfl, gq, qa, qc, rfl, hB2, hI2, fb⟩ := hcut
      obtain ⟨wb, ewb⟩ : ∃ wb, wb = wc := ⟨_, rfl⟩
      subst ewb
      replace gr := gr.same fb
      replace y0 := fb.cellN y0
      obtain ⟨p0, p1, p2, p3, p4⟩ := box5 (fb.heap hB1H (fun f => f))
      obtain ⟨q0, q1, q2, q3, q4⟩ := box5 hB2
      replace hI1 := hI1.keep fb
      clear hB1H hB2 kq c0 c1 d0 d1
      have ks := fun (w1 : World) (h : Fr (fun _ => False) wb w1) => sameItem_any ⟨pk, pn, pt, pb, pl⟩ ⟨qk, qn, qt, qb, ql⟩ _ _ w1 ⟨_, _, rfl, hI1.keep h⟩ ⟨_, _, rfl, hI2.keep h⟩
      clear hI1 hI2
      go_upto_region 11 with fail
      go_cut [76] (fun bv wx => bv = .bool false ∧ Fr (fun _ => False) wb wx)
      case first =>
        clear hdif kr1 kr2 ksm
        refine wp_region_grow (by kernel_rfl) (by kernel_rfl) ?_
        rcases Nat.eq_zero_or_pos j with hj0 | hj0
        · have hd0 : decide ((0 : Int) < (j : Int)) = false := by simp; omega
          have hd2 : ¬ ((0 : Int) < (j : Int)) := by omega
          have hd3 : decide (0 < j) = false := by simp; omega
          have hd4 : ¬ (0 < j) := by omega
          clear hj0
          cases is1 <;> cases is2
          · rw [decide_eq_false ((show _ → _ from hpqH) rfl)] at ks
            clear hpqH
            (repeat (first | (refine grow_op (v := ?_) ?_ ?_ ?_; rotate_left; (focus (first | exact wanted_none rfl | (go_simp; done))); (focus (intro w' hw'; have p0 := hw'.cellN p0; have p1 := hw'.cellN p1; have p2 := hw'.cellN p2; have p3 := hw'.cellN p3; have p4 := hw'.cellN p4; have q0 := hw'.cellN q0; have q1 := hw'.cellN q1; have q2 := hw'.cellN q2; have q3 := hw'.cellN q3; have q4 := hw'.cellN q4; (go_simp; first | with_reducible rfl | (go_at_call 19; refine calls_grow hw' ?_; first | (have q := ks _ hw'; with_reducible exact q))))); (intro a' ha; simp only [Act.put, List.setIfInBounds_toArray, List.set_cons_zero, List.set_cons_succ] at ha; subst ha)) | (refine grow_no ?_ ?_; (focus (go_simp; done)); (intro a' ha; simp only [Act.put, List.setIfInBounds_toArray, List.set_cons_zero, List.set_cons_succ] at ha; subst ha)))); refine grow_nil ?_; intro w1 k1
            go_wp2_with fail
            go_meet
            exact ⟨rfl, k1⟩
          · clear hpqH ks
            (repeat (first | (refine grow_op (v := ?_) ?_ ?_ ?_; rotate_left; (focus (first | exact wanted_none rfl | (go_simp; done))); (focus (intro w' hw'; (go_simp; with_reducible rfl))); (intro a' ha; simp only [Act.put, List.setIfInBounds_toArray, List.set_cons_zero, List.set_cons_succ] at ha; subst ha)) | (refine grow_no ?_ ?_; (focus (go_simp; done)); (intro a' ha; simp only [Act.put, List.setIfInBounds_toArray, List.set_cons_zero, List.set_cons_succ] at ha; subst ha)))); refine grow_nil ?_; intro w1 k1
            go_wp2_with fail
            go_meet
            exact ⟨rfl, k1⟩
          · clear hpqH ks
            (repeat (first | (refine grow_op (v := ?_) ?_ ?_ ?_; rotate_left; (focus (first | exact wanted_none rfl | (go_simp; done))); (focus (intro w' hw'; (go_simp; with_reducible rfl))); (intro a' ha; simp only [Act.put, List.setIfInBounds_toArray, List.set_cons_zero, List.set_cons_succ] at ha; subst ha)) | (refine grow_no ?_ ?_; (focus (go_simp; done)); (intro a' ha; simp only [Act.put, List.setIfInBounds_toArray, List.set_cons_zero, List.set_cons_succ] at ha; subst ha)))); refine grow_nil ?_; intro w1 k1
            go_wp2_with fail
            go_meet
            exact ⟨rfl, k1⟩
          · rw [decide_eq_false ((show _ → _ from hpqH) rfl)] at ks
            clear hpqH
            (repeat (first | (refine grow_op (v := ?_) ?_ ?_ ?_; rotate_left; (focus (first | exact wanted_none rfl | (go_simp; done))); (focus (intro w' hw'; have p0 := hw'.cellN p0; have p1 := hw'.cellN p1; have p2 := hw'.cellN p2; have p3 := hw'.cellN p3; have p4 := hw'.cellN p4; have q0 := hw'.cellN q0; have q1 := hw'.cellN q1; have q2 := hw'.cellN q2; have q3 := hw'.cellN q3; have q4 := hw'.cellN q4; (go_simp; first | with_reducible rfl | (go_at_call 19; refine calls_grow hw' ?_; first | (have q := ks _ hw'; with_reducible exact q))))); (intro a' ha; simp only [Act.put, List.setIfInBounds_toArray, List.set_cons_zero, List.set_cons_succ] at ha; subst ha)) | (refine grow_no ?_ ?_; (focus (go_simp; done)); (intro a' ha; simp only [Act.put, List.setIfInBounds_toArray, List.set_cons_zero, List.set_cons_succ] at ha; subst ha)))); refine grow_nil ?_; intro w1 k1
            go_wp2_with fail
            go_meet
            exact ⟨rfl, k1⟩
        · obtain ⟨k, hk⟩ : ∃ k, k + 1 = j := ⟨j - 1, by omega⟩
          have hk1 : k < d.length := by omega
          have hk2 : (0 : Int) < (j : Int) := by omega
          have hd1 : decide ((0 : Int) < (j : Int)) = true := by simp; omega
          have hk3 : IntKind.i64.wrap ((j : Int) - 1) = (k : Int) := by
            rw [show ((j : Int) - 1) = (k : Int) by omega]
            rw [IntKind.wrap_i64]; omega
          obtain ⟨y, hy⟩ : ∃ y, d[k]? = some y := ⟨d[k], List.getElem?_eq_getElem (by omega)⟩
          have hyx : y < x := by
            obtain ⟨_, ey⟩ := List.getElem?_eq_some_iff.1 hy
            obtain ⟨_, ex⟩ := List.getElem?_eq_some_iff.1 hx
            have := List.pairwise_iff_getElem.1 (show U.SS d from hssH) k j hk1 hjl (by omega)
            rw [ey, ex] at this
            exact this
          have hbl : Op.bytesLess y x = true := by rw [bytesLess_eq, decide_eq_true hyx]
          clear hyx
          have y1 : wb.cell? ⟨bd, offd + k, none⟩ = some (ct y) := ((hfr.same fa).same fb).cellN (hcd k y hy)
          cases is1 <;> cases is2
          · rw [decide_eq_false ((show _ → _ from hpqH) rfl)] at ks
            clear hpqH
            (repeat (first | (refine grow_op (v := ?_) ?_ ?_ ?_; rotate_left; (focus (first | exact wanted_none rfl | (go_simp; done))); (focus (intro w' hw'; have p0 := hw'.cellN p0; have p1 := hw'.cellN p1; have p2 := hw'.cellN p2; have p3 := hw'.cellN p3; have p4 := hw'.cellN p4; have q0 := hw'.cellN q0; have q1 := hw'.cellN q1; have q2 := hw'.cellN q2; have q3 := hw'.cellN q3; have q4 := hw'.cellN q4; have y0 := hw'.cellN y0; have y1 := hw'.cellN y1; (go_simp; first | with_reducible rfl | (go_at_call 19; refine calls_grow hw' ?_; first | (have q := ks _ hw'; with_reducible exact q))))); (intro a' ha; simp only [Act.put, List.setIfInBounds_toArray, List.set_cons_zero, List.set_cons_succ] at ha; subst ha)) | (refine grow_no ?_ ?_; (focus (go_simp; done)); (intro a' ha; simp only [Act.put, List.setIfInBounds_toArray, List.set_cons_zero, List.set_cons_succ] at ha; subst ha)))); refine grow_nil ?_; intro w1 k1
            go_wp2_with fail
            go_meet
            exact ⟨rfl, k1⟩
          · clear hpqH ks
            (repeat (first | (refine grow_op (v := ?_) ?_ ?_ ?_; rotate_left; (focus (first | exact wanted_none rfl | (go_simp; done))); (focus (intro w' hw'; have y0 := hw'.cellN y0; have y1 := hw'.cellN y1; (go_simp; with_reducible rfl))); (intro a' ha; simp only [Act.put, List.setIfInBounds_toArray, List.set_cons_zero, List.set_cons_succ] at ha; subst ha)) | (refine grow_no ?_ ?_; (focus (go_simp; done)); (intro a' ha; simp only [Act.put, List.setIfInBounds_toArray, List.set_cons_zero, List.set_cons_succ] at ha; subst ha)))); refine grow_nil ?_; intro w1 k1
            go_wp2_with fail
            go_meet
            exact ⟨rfl, k1⟩
          · clear hpqH ks
            (repeat (first | (refine grow_op (v := ?_) ?_ ?_ ?_; rotate_left; (focus (first | exact wanted_none rfl | (go_simp; done))); (focus (intro w' hw'; have y0 := hw'.cellN y0; have y1 := hw'.cellN y1; (go_simp; with_reducible rfl))); (intro a' ha; simp only [Act.put, List.setIfInBounds_toArray, List.set_cons_zero, List.set_cons_succ] at ha; subst ha)) | (refine grow_no ?_ ?_; (focus (go_simp; done)); (intro a' ha; simp only [Act.put, List.setIfInBounds_toArray, List.set_cons_zero, List.set_cons_succ] at ha; subst ha)))); refine grow_nil ?_; intro w1 k1
            go_wp2_with fail
            go_meet
            exact ⟨rfl, k1⟩
          · rw [decide_eq_false ((show _ → _ from hpqH) rfl)] at ks
            clear hpqH
            (repeat (first | (refine grow_op (v := ?_) ?_ ?_ ?_; rotate_left; (focus (first | exact wanted_none rfl | (go_simp; done))); (focus (intro w' hw'; have p0 := hw'.cellN p0; have p1 := hw'.cellN p1; have p2 := hw'.cellN p2; have p3 := hw'.cellN p3; have p4 := hw'.cellN p4; have q0 := hw'.cellN q0; have q1 := hw'.cellN q1; have q2 := hw'.cellN q2; have q3 := hw'.cellN q3; have q4 := hw'.cellN q4; have y0 := hw'.cellN y0; have y1 := hw'.cellN y1; (go_simp; first | with_reducible rfl | (go_at_call 19; refine calls_grow hw' ?_; first | (have q := ks _ hw'; with_reducible exact q))))); (intro a' ha; simp only [Act.put, List.setIfInBounds_toArray, List.set_cons_zero, List.set_cons_succ] at ha; subst ha)) | (refine grow_no ?_ ?_; (focus (go_simp; done)); (intro a' ha; simp only [Act.put, List.setIfInBounds_toArray, List.set_cons_zero, List.set_cons_succ] at ha; subst ha)))); refine grow_nil ?_; intro w1 k1
            go_wp2_with fail
            go_meet
            exact ⟨rfl, k1⟩
      case rest =>
      obtain ⟨rfl, fz⟩ := hcut
      have fzH : Hidden (Fr (fun _ => False) w5 wc) := ((hfr.same fa).same fb).same fz
      clear hfr fa fb fz gr hssH hdif hpqH ks
      go_wp2_with fail
      go_roundg (d.length - (j + 1))
      case measure => have : gk = d.length - j := hgkH; omega
      case rel => exact ⟨j + 1, by go_num, by omega, rfl, fzH⟩
    · have c0 : wr.cell? ⟨w.heap.size, 0, none⟩ = some (ct n1) := hfr.cellN c0H
      have c1 : wr.cell? ⟨w.heap.size, 1, none⟩ = some (.slice ao1 l1.length cap1) := hfr.cellN c1H
      have d0 : wr.cell? ⟨w.heap.size + 1, 0, none⟩ = some (ct n2) := hfr.cellN d0H
      have d1 : wr.cell? ⟨w.heap.size + 1, 1, none⟩ = some (.slice ao2 l2.length cap2) := hfr.cellN d1H
      have gr : Fr (fun _ => False) w wr := (show Fr (fun _ => False) w w5 from g5H).same hfr
      clear hfr hfrH hmemH hssH tl5H c0H c1H d0H d1H g5H kg1 kg2 hgkH
      go_wp2_with fail
      go_at_call 8
      refine (kr1 _ gr).mono ?_
      rintro e w7 ⟨rfl, f7⟩
      replace gr := gr.same f7
      replace c0 := f7.cellN c0
      replace c1 := f7.cellN c1
      replace d0 := f7.cellN d0
      replace d1 := f7.cellN d1
      clear f7 kr1
      by_cases h1 : r1 = 0
      · subst h1
        go_wp2_with fail
        go_at_call 8
        refine (kr2 _ gr).mono ?_
        rintro e w8 ⟨rfl, f8⟩
        replace gr := gr.same f8
        replace c0 := f8.cellN c0
        replace c1 := f8.cellN c1
        replace d0 := f8.cellN d0
        replace d1 := f8.cellN d1
        clear f8 kr2
        by_cases h2 : r2 = 0
        · subst h2
          by_cases h3 : n1 = n2
          · subst h3
            have hsm := (show _ → _ → _ → _ from hdlH) (by simp) (by simp) (by simp)
            clear hdlH
            by_cases hd : d.length = 0
            · rw [decide_eq_true hd] at hsm
              subst hsm
              have hd1 : ((d.length : Int) == 0) = true := by simp [hd]
              clear hd
              go_wp2_with (go_at_call 10; refine (ksm _ gr).mono ?_; rintro e w9 ⟨rfl, f9⟩)
              go_ret
              exact ⟨rfl, gr.same f9⟩
            · rw [decide_eq_false hd] at hsm
              subst hsm
              have hd1 : ((d.length : Int) == 0) = false := by simp [hd]
              clear hd
              go_wp2_with (go_at_call 10; refine (ksm _ gr).mono ?_; rintro e w9 ⟨rfl, f9⟩)
              go_ret
              exact ⟨rfl, gr.same f9⟩
          · have hne : (n1 == n2) = false := by simpa using h3
            clear h3 hdlH
            go_wp2_with fail
            go_ret
            exact ⟨rfl, gr⟩
        · have b0 : (r2 == 0) = false := by simp [h2]
          have b1 : (r2 != 0) = true := by simp [h2]
          clear h2 hdlH
          go_wp2_with fail
          go_ret
          exact ⟨rfl, gr⟩
      · have b0 : (r1 == 0) = false := by simp [h1]
        have b1 : (r1 != 0) = true := by simp [h1]
        clear h1 hdlH kr2
        go_wp2_with fail
        go_ret
        exact ⟨rfl, gr⟩
theorem walk (v1 : Value) (f : Fc) (v2 : Value) (g : Fc) (w : World) (hf : FcI w f v1) (okf : OkN f.name ∧ ∀ p ∈ f.items, OkI p) (blf : f.name.length + (f.items.map bkI).sum ≤ 1048576) (hg : FcI w g v2) (okg : OkN g.name ∧ ∀ p ∈ g.items, OkI p) (blg : g.name.length + (g.items.map bkI).sum ≤ 1048576) (ht : F.Tab w) :
    Calls Tryz.prog 4 #[v1, v2] w fun e w' => e = .returned (.bool true) ∧ Fr (fun _ => False) w w' := by
  obtain ⟨lf, pf⟩ := len_all (show (f.items.map bkI).sum ≤ 1048576 by omega)
  obtain ⟨lg, pg⟩ := len_all (show (g.items.map bkI).sum ≤ 1048576 by omega)
  exact walkB v1 f v2 g w hf okf ⟨by omega, fun i hi => by have := pf i hi; omega⟩ hg okg ⟨by omega, fun i hi => by have := pg i hi; omega⟩ ht
end Go.Proofs.YtjnjajiofhkinaaGreatDoor.typesDiffs
