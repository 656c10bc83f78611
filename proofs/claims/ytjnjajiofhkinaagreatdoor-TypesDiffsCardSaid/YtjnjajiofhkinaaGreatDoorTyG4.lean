/- The program's Diff. -/
import Derived.Test.YtjnjajiofhkinaaGreatDoorTyG2
import Derived.Test.YtjnjajiofhkinaaGreatDoorTyG3
import Derived.Test.YtjnjajiofhkinaaGreatDoorNzB
import Derived.Deep.RegionHeld3
namespace Go.Proofs.YtjnjajiofhkinaaGreatDoor.Ty
open Go.RowKit
set_option linter.unusedSimpArgs false
set_option linter.unusedVariables false

theorem u_fr {S : Nat → Prop} {w w' : World} (h : U.Fr S w w') : Fr S w w' := ⟨h.os, h.output, h.size, h.block⟩
theorem fr_u {S : Nat → Prop} {w w' : World} (h : Fr S w w') : U.Fr S w w' := ⟨h.os, h.output, h.size, h.block⟩
/-- The names of which two lists have unlike items. -/
def diffS (l1 l2 : List It) : List Bs := U.setS ((l1.map (·.name) ++ l2.map (·.name)).filter fun x => decide (firstI l1 x ≠ firstI l2 x))
theorem firstI_mem {l : List It} {x : Bs} {i : It} (h : firstI l x = some i) : x ∈ l.map (·.name) := by
  unfold firstI at h
  have h1 := List.find?_some h
  have h2 := List.mem_of_find?_eq_some h
  simp only [beq_iff_eq] at h1
  exact List.mem_map.2 ⟨i, h2, h1⟩
theorem mem_diffS {l1 l2 : List It} {x : Bs} : x ∈ diffS l1 l2 ↔ firstI l1 x ≠ firstI l2 x := by
  unfold diffS
  rw [U.mem_setS, List.mem_filter, decide_eq_true_eq, List.mem_append]
  constructor
  · exact fun h => h.2
  · intro h
    refine ⟨?_, h⟩
    cases h1 : firstI l1 x with
    | some i => exact Or.inl (firstI_mem h1)
    | none =>
      cases h2 : firstI l2 x with
      | some i => exact Or.inr (firstI_mem h2)
      | none => rw [h1, h2] at h; exact absurd rfl h
theorem diffI_or {l1 l2 : List It} {x : Bs} : (diffI l1 l2 x ∨ diffI l2 l1 x) ↔ firstI l1 x ≠ firstI l2 x := by
  constructor
  · rintro (⟨i, h1, h2⟩ | ⟨i, h1, h2⟩)
    · rw [h1]; exact fun e => h2 e.symm
    · rw [h1]; exact h2
  · intro h
    cases h1 : firstI l1 x with
    | some i => exact Or.inl ⟨i, h1, fun e => h (by rw [h1, e])⟩
    | none =>
      cases h2 : firstI l2 x with
      | some i => exact Or.inr ⟨i, h2, by rw [h1]; exact fun e => by cases e⟩
      | none => rw [h1, h2] at h; exact absurd rfl h
theorem union_diff {l1 l2 : List It} {L1 L2 : List Bs} (h1 : ∀ x, x ∈ L1 ↔ diffI l1 l2 x) (h2 : ∀ x, x ∈ L2 ↔ diffI l2 l1 x) : U.setS (L1 ++ L2) = diffS l1 l2 := by
  refine U.SS.ext (U.setS_ss _) (U.setS_ss _) fun x => ?_
  rw [U.mem_setS, List.mem_append, h1, h2, diffI_or]
  exact mem_diffS.symm
theorem own_tl {w : World} {B : Nat} {v : Value} {L : List Bs} (h : w.ownsRow B 9 1 v L.length (L.map ct)) : U.Tl w v L := (show U.To w B v L from h).tn.tl
theorem FM.up {W W' w : World} {b n : Nat} {l : List It} (h : FM W w b n l) (hf : Fr (fun _ => False) W W') : FM W' w b n l := by
  obtain ⟨D, h1, h2⟩ := h
  refine ⟨D, h1, fun s => ?_⟩
  rcases h2 s with h | ⟨i, c, a1, a2, a3, a4⟩
  · exact Or.inl h
  · exact Or.inr ⟨i, c, a1, a2, a3, a4.keep hf⟩
set_option maxRecDepth 20000 in
set_option maxHeartbeats 8000000 in
theorem diff_w (nm1 nm2 : Bs) (l1 l2 : List It) (ao bo : Option Addr) (ca cb : Nat) (w : World) (h1 : ItL w ao ca l1) (h2 : ItL w bo cb l2) (ok1 : ∀ i ∈ l1, OkI i) (ok2 : ∀ i ∈ l2, OkI i) (hl1 : l1.length ≤ 2199023255552) (hl2 : l2.length ≤ 2199023255552) :
    Calls Tryz.prog 13 #[.agg #[ct nm1, .slice ao l1.length ca], .agg #[ct nm2, .slice bo l2.length cb]] w fun e w' => ∃ v, e = .returned v ∧ U.Tn w' w.heap.size v (diffS l1 l2) ∧ Fr (fun _ => False) w w' := by
  obtain ⟨W0, hW0⟩ : ∃ W, W = (w.alloc (.cells #[ct nm1, .slice ao l1.length ca] 24)).alloc (.cells #[ct nm2, .slice bo l2.length cb] 24) := ⟨_, rfl⟩
  have f0 : Fr (fun _ => False) w W0 := by rw [hW0]; exact (Fr.alloc _ _ _).same (Fr.alloc _ _ _)
  have hb1 : W0.heap[w.heap.size]? = some (.cells #[ct nm1, .slice ao l1.length ca] 24 (0, 0)) := by rw [hW0]; exact (Fr.alloc (fun _ => False) _ _).heap (alloc_new _ _) (fun f => f)
  have hb2 : W0.heap[w.heap.size + 1]? = some (.cells #[ct nm2, .slice bo l2.length cb] 24 (0, 0)) := by rw [hW0]; exact alloc_at _ _ _ (by simp)
  have c1 : W0.cell? ⟨w.heap.size, 1, none⟩ = some (.slice ao l1.length ca) := cell_of_row _ _ 1 _ _ _ hb1
  have d1 : W0.cell? ⟨w.heap.size + 1, 1, none⟩ = some (.slice bo l2.length cb) := cell_of_row _ _ 1 _ _ _ hb2
  have hW0H : Hidden (W0 = _) := hW0
  have ka := fun (w1 : World) (f : Fr (fun _ => False) W0 w1) => first_any ao ca l1 w1 (h1.keep (f0.same f)) ok1
  have kb := fun (w1 : World) (f : Fr (fun _ => False) W0 w1) => first_any bo cb l2 w1 (h2.keep (f0.same f)) ok2
  have f0H : Hidden (Fr (fun _ => False) w W0) := f0
  have fd : Fr (fun _ => False) W0 W0.drew := Fr.drew _ _
  clear hb1 hb2 hW0 f0 h1 h2 ok1 ok2
  go_enter Tryz.func13, Tryz.ntmps13
  go_wp2_with fail
  rw [← (show W0 = _ from hW0H)]
  go_region_held3 (fun w' => Fr (fun _ => False) W0 w' ∧ w'.cell? ⟨w.heap.size, 1, none⟩ = some (.slice ao l1.length ca) ∧ w'.cell? ⟨w.heap.size + 1, 1, none⟩ = some (.slice bo l2.length cb)) (first | (refine ⟨by assumption, by assumption, by assumption⟩) | (refine ⟨by assumption, ?_⟩; go_keep)) (first
    | (go_at_call 29; (go_split_ands); with_reducible (refine Calls.mono (ka _ (by assumption)) ?_); rintro e wa ⟨na, rfl, hna, fma, fa⟩; have ga := Fr.same (by assumption) fa; have q0 := ga.cellN c1; have q1 := ga.cellN d1)
    | (go_at_call 29; (go_split_ands); with_reducible (refine Calls.mono (kb _ (by assumption)) ?_); rintro e wb ⟨nb, rfl, hnb, fmb, fb⟩; have gb := Fr.same (by assumption) fb; have q0 := gb.cellN c1; have q1 := gb.cellN d1))
  have f0' : Fr (fun _ => False) w W0 := f0H
  have m1 : FM wb wb W0.drew.heap.size na l1 := (fma.up (fa.same fb)).keep fb (fun f => f)
  have m2 : FM wb wb wa.heap.size nb l2 := fmb.up fb
  have k1 := unlike_any wb _ na _ nb l1 l2 wb m1 m2 (Fr.refl _ _) (by omega)
  have k2 := fun (w1 : World) (f : Fr (fun _ => False) wb w1) => unlike_any wb _ nb _ na l2 l1 w1 (m2.keep f (fun f => f)) (m1.keep f (fun f => f)) f (by omega)
  have gbH : Hidden (Fr (fun _ => False) w wb) := f0'.same gb
  have hnaH : Hidden (na ≤ l1.length ∧ nb ≤ l2.length) := ⟨hna, hnb⟩
  clear fma fmb m1 m2 ka kb hna hnb fa fb ga gb
  go_wp2_with fail
  go_at_call 31
  refine k1.mono ?_
  rintro e w1 ⟨v1, L1, rfl, r1, p1, n1, g1⟩
  have g1H : Hidden (Fr (fun _ => False) wb w1) := g1
  have r1H : Hidden (w1.ownsRow wb.heap.size 9 1 v1 L1.length (L1.map ct)) := r1
  have p1H : Hidden (∀ x, x ∈ L1 ↔ diffI l1 l2 x) := p1
  have n1H : Hidden (L1.length ≤ na) := n1
  clear r1 p1 n1 k1
  go_wp2_with fail
  go_at_call 31
  refine (k2 _ g1).mono ?_
  rintro e w2 ⟨v2, L2, rfl, r2, p2, n2, g2⟩
  have u1 : U.Tl w2 v1 L1 := own_tl (own_keep r1H g2 (fun _ _ f => f))
  have u2 : U.Tl w2 v2 L2 := own_tl r2
  have hsum : (L1.length + L2.length) * 16 ≤ 140737488355328 := by
    have : L1.length ≤ na := n1H
    have : na ≤ l1.length ∧ nb ≤ l2.length := hnaH
    omega
  have ku := U.union_any v1 v2 L1 L2 w2 u1 u2 hsum
  rw [union_diff p1H p2] at ku
  have g2H : Hidden (Fr (fun _ => False) w1 w2) := g2
  clear k2 r2 p2 n2 u1 u2 hsum g2
  go_wp2_with fail
  go_at_call 30
  refine ku.mono ?_
  rintro e w3 ⟨v3, rfl, t3, g3⟩
  go_wp2_with fail
  go_ret
  have hall : Fr (fun _ => False) w w2 := ((show Fr (fun _ => False) w wb from gbH).same g1H).same g2H
  exact ⟨v3, rfl, t3.lower hall.size, hall.same (u_fr g3)⟩
theorem diff_any (f g : Fc) (vf vg : Value) (w : World) (hf : FcI w f vf) (hg : FcI w g vg) (okf : ∀ i ∈ f.items, OkI i) (okg : ∀ i ∈ g.items, OkI i) (hl1 : f.items.length ≤ 2199023255552) (hl2 : g.items.length ≤ 2199023255552) :
    Calls Tryz.prog 13 #[vf, vg] w fun e w' => ∃ v, e = .returned v ∧ U.Tn w' w.heap.size v (diffS f.items g.items) ∧ Fr (fun _ => False) w w' := by
  obtain ⟨ao, ca, rfl, h1⟩ := hf
  obtain ⟨bo, cb, rfl, h2⟩ := hg
  exact diff_w f.name g.name f.items g.items ao bo ca cb w h1 h2 okf okg hl1 hl2
end Go.Proofs.YtjnjajiofhkinaaGreatDoor.Ty
