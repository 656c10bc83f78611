/- TreeFirst: a module without declarations. -/
import Derived.Test.YtddedomocnpdjaaGreatDoorTrFw
import Derived.Test.YtddedomocnpdjaaGreatDoorTrLAll
import Derived.Test.YtddedomocnpdjaaGreatDoorTrF
import Derived.Test.YtddedomocnpdjaaGreatDoorTrK
import Derived.Test.YtddedomocnpdjaaGreatDoorTrG
import Derived.Deep.DeepCutAuto
import Derived.Deep.RegionHeld3
namespace Go.Proofs.YtddedomocnpdjaaGreatDoor
open Go.RowKit Te
set_option linter.unusedSimpArgs false
set_option linter.unusedVariables false

set_option maxRecDepth 20000 in
set_option maxHeartbeats 16000000 in
theorem first_none (name : Bs) (imports : List Bs) (d : De) (ao : Option Addr) (cap : Nat) (pa : Option Addr) (pc : Nat) (ea : Option Addr) (ec : Nat) (ba : Option Addr) (bc : Nat) (w : World) (hm : MoI w ⟨name, imports, []⟩ (.agg #[ct name, .slice ao imports.length cap, .slice none 0 0])) (om : OkM ⟨name, imports, []⟩) (hs : 0 * 112 ≤ 140737488351232) (hd : DeI w d (.slice pa d.params.length pc) (.slice ea d.e.len ec) (.slice ba d.body.len bc)) (od : OkD d) (ht : F.Tab w)
    :
    Calls Tryz.prog 4 #[.agg #[ct name, .slice ao imports.length cap, .slice none 0 0], deV d (.slice pa d.params.length pc) (.slice ea d.e.len ec) (.slice ba d.body.len bc)] w fun e w' => e = .returned (.bool true) ∧ Fr (fun _ => False) w w' := by
  obtain ⟨W0, hW0⟩ : ∃ W, W = ((w.alloc (.cells #[ct name, .slice ao imports.length cap, .slice none 0 0] 25 (0, 0))).alloc (.cells #[ci d.kind, .bool d.ex, ct d.name, ci d.type, .slice pa d.params.length pc, .slice ea d.e.len ec, .slice ba d.body.len bc] 30 (0, 0))) := ⟨_, rfl⟩
  have f0 : Fr (fun _ => False) w W0 := by rw [hW0]; exact (Fr.alloc _ _ _).same (Fr.alloc _ _ _)
  have hA : W0.heap[w.heap.size]? = some (.cells #[ct name, .slice ao imports.length cap, .slice none 0 0] 25 (0, 0)) := by rw [hW0]; exact g21 _ _ _
  have hB : W0.heap[w.heap.size + 1]? = some (.cells #[ci d.kind, .bool d.ex, ct d.name, ci d.type, .slice pa d.params.length pc, .slice ea d.e.len ec, .slice ba d.body.len bc] 30 (0, 0)) := by rw [hW0]; exact g22 _ _ _
  have hW0H : Hidden (W0 = _) := hW0
  have f0H : Hidden (Fr (fun _ => False) w W0) := f0
  have hsH : Hidden (0 * 112 ≤ 140737488351232) := hs
  have oa : OkM ⟨name, imports, [d]⟩ := ⟨om.name, om.imports, fun x hx => by
    simp only [List.mem_singleton] at hx; subst hx; exact od⟩
  have o1 : OkM ⟨name, [], [d]⟩ := ⟨om.name, fun x hx => by simp at hx, fun x hx => by simp only [List.mem_singleton] at hx; subst hx; exact od⟩
  have kl := live_any W0 (tab_fr ht f0)
  have kM := fun (u : World) (f : Fr (fun _ => False) w u) => right_any ⟨name, imports, []⟩ _ u om (hm.keep f)
  have b1 : 64 < 1 → errM rnS cnS ⟨name, imports, [d]⟩ ≠ 0 := first_big rnS cnS ⟨name, imports, []⟩ d
  have b2 : 1 ≤ 64 → errM rnS cnS ⟨name, imports, []⟩ ≠ 0 → errM rnS cnS ⟨name, imports, [d]⟩ = errM rnS cnS ⟨name, imports, []⟩ := first_wrong rnS cnS ⟨name, imports, []⟩ d
  have b3 : 1 ≤ 64 → errM rnS cnS ⟨name, imports, []⟩ = 0 → errM rnS cnS ⟨name, imports, [d]⟩ = errM rnS cnS ⟨name, [], [d]⟩ := first_right rnS cnS ⟨name, imports, []⟩ d
  have kA := fun (u : World) (a : Option Addr) (c : Nat) (hu : Fr (fun _ => False) w u) (h : DeL u a c ([d])) => right_any ⟨name, imports, [d]⟩ (.agg #[ct name, .slice ao imports.length cap, .slice a ([d]).length c]) u oa ⟨ao, cap, a, c, rfl, by obtain ⟨_, _, _, _, e, h1, _⟩ := hm; cases e; exact h1.keep hu, h⟩
  have kO := fun (u : World) (g : Nat) (hu : Fr (fun _ => False) w u) (h : u.heap[g]? = some (.cells #[ci d.kind, .bool d.ex, ct d.name, ci d.type, .slice pa d.params.length pc, .slice ea d.e.len ec, .slice ba d.body.len bc] 30 (0, 0))) => right_any ⟨name, [], [d]⟩ (.agg #[ct name, .slice none 0 0, .slice (some ⟨g, 0, none⟩) 1 1]) u o1 ⟨none, 0, some ⟨g, 0, none⟩, 1, rfl, ⟨by simp, by simp [maxLen], Or.inl rfl⟩, ⟨by simp, by simp [maxLen], Or.inr ⟨g, 0, rfl, fun i x hx => by
    match i, hx with
    | 0, hx =>
      obtain rfl : d = x := by simpa using hx
      refine ⟨_, _, _, hd.keep hu, fun j y hy => ?_⟩
      rw [Nat.zero_mul, Nat.add_zero, Nat.zero_add, cell_of_row u g j _ _ (0, 0) h]
      simpa [deC] using hy⟩⟩⟩
  generalize errM rnS cnS ⟨name, imports, []⟩ = E1 at kM b2 b3
  generalize errM rnS cnS ⟨name, imports, [d]⟩ = E2 at kA b1 b2 b3
  generalize errM rnS cnS ⟨name, [], [d]⟩ = E3 at kO b3
  have b1H : Hidden (64 < 1 → E2 ≠ 0) := b1
  have b2H : Hidden (1 ≤ 64 → E1 ≠ 0 → E2 = E1) := b2
  have b3H : Hidden (1 ≤ 64 → E1 = 0 → E2 = E3) := b3
  have kMH : Hidden (∀ (u : World) (f : Fr (fun _ => False) w u), Calls Tryz.prog 9 #[.agg #[ct name, .slice ao imports.length cap, .slice none 0 0]] u fun e w' => e = .returned (ci E1) ∧ Fr (fun _ => False) u w') := kM
  have hml : 0 ≤ 9223372036854775807 := by omega
  have hcap : imports.length ≤ cap ∧ cap ≤ 9223372036854775807 := by obtain ⟨_, _, _, _, e, h1, _⟩ := hm; cases e; have := h1.2.1; unfold maxLen at this; exact ⟨h1.1, by omega⟩
  have hdH : Hidden (DeI w d (.slice pa d.params.length pc) (.slice ea d.e.len ec) (.slice ba d.body.len bc)) := hd
  clear hW0 b1 b2 b3 kM hm om hs hd od ht oa o1
  go_enter Tryz.func4, Tryz.ntmps4
  go_wp2_with fail
  rw [← (show W0 = _ from hW0H)]
  go_at_call 5
  refine kl.mono ?_
  rintro e V ⟨rfl, f1⟩
  have gV : Fr (fun _ => False) w V := f0.same f1
  obtain ⟨c0, c1, c2⟩ := mo_box (f1.heap hA (fun f => f))
  obtain ⟨d0, d1, d2, d3, d4, d5, d6⟩ := de_box (f1.heap hB (fun f => f))
  have hch1 : Rw.Chunks (Rw.RD V) 7 [d] [ci d.kind, .bool d.ex, ct d.name, ci d.type, .slice pa d.params.length pc, .slice ea d.e.len ec, .slice ba d.body.len bc] := ⟨deC d _ _ _, [], by simp [deC], rfl, ⟨_, _, _, (show DeI w d _ _ _ from hdH).keep gV, rfl⟩, rfl⟩
  have hone1 : ∀ u ∈ [ci d.kind, .bool d.ex, ct d.name, ci d.type, .slice pa d.params.length pc, .slice ea d.e.len ec, .slice ba d.body.len bc], u.oneCell' = true := by
    intro u hu
    simp only [List.mem_cons, List.not_mem_nil, or_false] at hu
    rcases hu with rfl | rfl | rfl | rfl | rfl | rfl | rfl <;> rfl
  have hl1 : [d].length = 1 := rfl
  have gVH : Hidden (Fr (fun _ => False) w V) := gV
  clear hA hB f0 f1 kl hdH gV
  go_upto_region 3 with fail
  go_cut [5] (fun p wx => AllR V name (.slice ao imports.length cap) ([d]) p wx)
  case first =>
    clear kA kO kMH b1H b2H b3H
    have hVlt : w.heap.size + 1 < V.heap.size := World.block_lt_of_cell? V _ d0
    have m0 : V.heap.size ≠ w.heap.size := World.new_ne V _ c0
    have m1 : V.heap.size ≠ w.heap.size + 1 := World.new_ne V _ d0
    have m2 : V.heap.size + 1 ≠ w.heap.size := Nat.ne_of_gt (Nat.lt_succ_of_lt (World.block_lt_of_cell? V _ c0))
    have m3 : V.heap.size + 1 ≠ w.heap.size + 1 := Nat.ne_of_gt (Nat.lt_succ_of_lt (World.block_lt_of_cell? V _ d0))
    have m4 : V.heap.size + 1 + 1 ≠ w.heap.size := by omega
    have m5 : V.heap.size + 1 + 1 ≠ w.heap.size + 1 := by omega
    go_region_held3 (fun w' => w'.cell? ⟨w.heap.size, 0, none⟩ = some (ct name) ∧ w'.cell? ⟨w.heap.size, 1, none⟩ = some (.slice ao imports.length cap) ∧ w'.cell? ⟨w.heap.size, 2, none⟩ = some (.slice none 0 0) ∧ w'.cell? ⟨w.heap.size + 1, 0, none⟩ = some (ci d.kind) ∧ w'.cell? ⟨w.heap.size + 1, 1, none⟩ = some (.bool d.ex) ∧ w'.cell? ⟨w.heap.size + 1, 2, none⟩ = some (ct d.name) ∧ w'.cell? ⟨w.heap.size + 1, 3, none⟩ = some (ci d.type) ∧ w'.cell? ⟨w.heap.size + 1, 4, none⟩ = some (.slice pa d.params.length pc) ∧ w'.cell? ⟨w.heap.size + 1, 5, none⟩ = some (.slice ea d.e.len ec) ∧ w'.cell? ⟨w.heap.size + 1, 6, none⟩ = some (.slice ba d.body.len bc)) (first | (refine ⟨by with_reducible assumption, by with_reducible assumption, by with_reducible assumption, by with_reducible assumption, by with_reducible assumption, by with_reducible assumption, by with_reducible assumption, by with_reducible assumption, by with_reducible assumption, by with_reducible assumption⟩) | (refine ⟨?_, ?_, ?_, ?_, ?_, ?_, ?_, ?_, ?_, ?_⟩; (focus (refine Fr.cellN (w := V) ?_ c0; (repeat (first | (with_reducible assumption) | (with_reducible exact Fr.refl _ _) | (with_reducible refine Fr.same ?_ (Fr.alloc _ _ _)) | (with_reducible refine Fr.same ?_ (Fr.drew _ _)))); done)); (focus (refine Fr.cellN (w := V) ?_ c1; (repeat (first | (with_reducible assumption) | (with_reducible exact Fr.refl _ _) | (with_reducible refine Fr.same ?_ (Fr.alloc _ _ _)) | (with_reducible refine Fr.same ?_ (Fr.drew _ _)))); done)); (focus (refine Fr.cellN (w := V) ?_ c2; (repeat (first | (with_reducible assumption) | (with_reducible exact Fr.refl _ _) | (with_reducible refine Fr.same ?_ (Fr.alloc _ _ _)) | (with_reducible refine Fr.same ?_ (Fr.drew _ _)))); done)); (focus (refine Fr.cellN (w := V) ?_ d0; (repeat (first | (with_reducible assumption) | (with_reducible exact Fr.refl _ _) | (with_reducible refine Fr.same ?_ (Fr.alloc _ _ _)) | (with_reducible refine Fr.same ?_ (Fr.drew _ _)))); done)); (focus (refine Fr.cellN (w := V) ?_ d1; (repeat (first | (with_reducible assumption) | (with_reducible exact Fr.refl _ _) | (with_reducible refine Fr.same ?_ (Fr.alloc _ _ _)) | (with_reducible refine Fr.same ?_ (Fr.drew _ _)))); done)); (focus (refine Fr.cellN (w := V) ?_ d2; (repeat (first | (with_reducible assumption) | (with_reducible exact Fr.refl _ _) | (with_reducible refine Fr.same ?_ (Fr.alloc _ _ _)) | (with_reducible refine Fr.same ?_ (Fr.drew _ _)))); done)); (focus (refine Fr.cellN (w := V) ?_ d3; (repeat (first | (with_reducible assumption) | (with_reducible exact Fr.refl _ _) | (with_reducible refine Fr.same ?_ (Fr.alloc _ _ _)) | (with_reducible refine Fr.same ?_ (Fr.drew _ _)))); done)); (focus (refine Fr.cellN (w := V) ?_ d4; (repeat (first | (with_reducible assumption) | (with_reducible exact Fr.refl _ _) | (with_reducible refine Fr.same ?_ (Fr.alloc _ _ _)) | (with_reducible refine Fr.same ?_ (Fr.drew _ _)))); done)); (focus (refine Fr.cellN (w := V) ?_ d5; (repeat (first | (with_reducible assumption) | (with_reducible exact Fr.refl _ _) | (with_reducible refine Fr.same ?_ (Fr.alloc _ _ _)) | (with_reducible refine Fr.same ?_ (Fr.drew _ _)))); done)); (focus (refine Fr.cellN (w := V) ?_ d6; (repeat (first | (with_reducible assumption) | (with_reducible exact Fr.refl _ _) | (with_reducible refine Fr.same ?_ (Fr.alloc _ _ _)) | (with_reducible refine Fr.same ?_ (Fr.drew _ _)))); done))) | go_keep) (first
      | (refine Rw.step_rows (R := Rw.RD V) rfl _ _ 23 30 (.agg #[.int .i64 0, .bool false, .string ⟨#[]⟩, .int .i64 0, .slice none 0 0, .slice none 0 0, .slice none 0 0]) 7 112 Tryz.underlying23 Rw.info_de rfl (by decide) rfl V.heap.size (.slice (some ⟨_, 0, none⟩) 0 0) [] [d] [ci d.kind, .bool d.ex, ct d.name, ci d.type, .slice pa d.params.length pc, .slice ea d.e.len ec, .slice ba d.body.len bc] ⟨_, 0, none⟩ 1 1 rfl ?_ rfl rfl hch1 ?_ hone1 ?_ ?_ ?_ ?_; (focus (refine Rw.Row.new _ _ 7 _ _ _ ?_ ?_; (focus (first | (exact Nat.le_refl _) | omega)); (focus (first | (with_reducible exact h11 _ _) | (with_reducible exact h21 _ _ _) | (with_reducible exact h22 _ _ _) | (with_reducible exact h31 _ _ _ _) | (with_reducible exact h32 _ _ _ _) | (with_reducible exact h33 _ _ _ _))))); (focus (refine de_row (t := 30) ?_; (first | (with_reducible exact h11 _ _) | (with_reducible exact h21 _ _ _) | (with_reducible exact h22 _ _ _) | (with_reducible exact h31 _ _ _ _) | (with_reducible exact h32 _ _ _ _) | (with_reducible exact h33 _ _ _ _)))); (focus (simp [maxLen]; done)); (focus (simp; done)); (focus (refine Fr.size (S := fun _ => False) ?_; (repeat (first | (with_reducible assumption) | (with_reducible exact Fr.refl _ _) | (with_reducible refine Fr.same ?_ (Fr.alloc _ _ _)) | (with_reducible refine Fr.same ?_ (Fr.drew _ _)))))); intro v5 w5 hr5 f5 ho5; rw [List.nil_append] at hr5; have g5 : Fr (fun _ => False) V w5 := (by refine Fr.over ?_ f5 ?_; (focus (repeat (first | (with_reducible assumption) | (with_reducible exact Fr.refl _ _) | (with_reducible refine Fr.same ?_ (Fr.alloc _ _ _)) | (with_reducible refine Fr.same ?_ (Fr.drew _ _))))); (focus (intro k e; rw [own_is] at e; injection e with e; omega))); have q0 := g5.cellN c0; have q1 := g5.cellN c1; have q2 := g5.cellN c2; have r0 := g5.cellN d0; have r1 := g5.cellN d1; have r2 := g5.cellN d2; have r3 := g5.cellN d3; have r4 := g5.cellN d4; have r5 := g5.cellN d5; have r6 := g5.cellN d6; obtain ⟨a5, c5, e5, hc5, hm5, _⟩ := hr5.slice; rw [hl1] at e5; subst e5; (try (have hY := keepX (g := V.heap.size) (o := (.cells #[.string ⟨#[]⟩, .slice none 0 0, .slice none 0 0] 25 (0, 0))) f5 ho5 (by (first | (with_reducible exact h11 _ _) | (with_reducible exact h21 _ _ _) | (with_reducible exact h22 _ _ _) | (with_reducible exact h31 _ _ _ _) | (with_reducible exact h32 _ _ _ _) | (with_reducible exact h33 _ _ _ _)); done) (fun e => by rw [own_is] at e; injection e with e; omega); obtain ⟨y0, y1, y2⟩ := mo_box hY.1; have z0 := frozen_row hY.1 0; have z1 := frozen_row hY.1 1; have z2 := frozen_row hY.1 2)); (try (have hY := keepX (g := V.heap.size + 1) (o := (.cells #[.string ⟨#[]⟩, .slice none 0 0, .slice none 0 0] 25 (0, 0))) f5 ho5 (by (first | (with_reducible exact h11 _ _) | (with_reducible exact h21 _ _ _) | (with_reducible exact h22 _ _ _) | (with_reducible exact h31 _ _ _ _) | (with_reducible exact h32 _ _ _ _) | (with_reducible exact h33 _ _ _ _)); done) (fun e => by rw [own_is] at e; injection e with e; omega); obtain ⟨y0, y1, y2⟩ := mo_box hY.1; have z0 := frozen_row hY.1 0; have z1 := frozen_row hY.1 1; have z2 := frozen_row hY.1 2)); (try (have hY := keepX (g := V.heap.size + 1 + 1) (o := (.cells #[.string ⟨#[]⟩, .slice none 0 0, .slice none 0 0] 25 (0, 0))) f5 ho5 (by (first | (with_reducible exact h11 _ _) | (with_reducible exact h21 _ _ _) | (with_reducible exact h22 _ _ _) | (with_reducible exact h31 _ _ _ _) | (with_reducible exact h32 _ _ _ _) | (with_reducible exact h33 _ _ _ _)); done) (fun e => by rw [own_is] at e; injection e with e; omega); obtain ⟨y0, y1, y2⟩ := mo_box hY.1; have z0 := frozen_row hY.1 0; have z1 := frozen_row hY.1 1; have z2 := frozen_row hY.1 2)); have hr5H : Hidden (Rw.Row (Rw.RD V) 30 7 w5 V.heap.size (.slice a5 1 c5) [d]) := hr5; clear hr5 hc5 hm5)
      | (refine Rw.step_none (R := Rw.RD V) rfl _ _ 23 30 7 Tryz.underlying23 (by kernel_rfl) rfl V.heap.size (.slice (some ⟨_, 0, none⟩) 0 0) [] rfl ?_ rfl ?_; (focus (refine Rw.Row.new _ _ 7 _ _ _ ?_ ?_; (focus (first | (exact Nat.le_refl _) | omega)); (focus (first | (with_reducible exact h11 _ _) | (with_reducible exact h21 _ _ _) | (with_reducible exact h22 _ _ _) | (with_reducible exact h31 _ _ _ _) | (with_reducible exact h32 _ _ _ _) | (with_reducible exact h33 _ _ _ _))))))
      )
    all_goals go_wp2_with fail
    all_goals go_meet
    all_goals first
      | exact all_new hr5H hl1.symm g5
      | exact all_old hr5H hl1.symm g5 hY (by omega)
  case rest =>
  obtain ⟨g, a, c, rfl, hbx, hdl, fx⟩ := hcut
  have gx : Fr (fun _ => False) w wc := (show Fr (fun _ => False) w V from gVH).same fx
  replace c0 := fx.cellN c0
  replace c1 := fx.cellN c1
  replace c2 := fx.cellN c2
  replace d0 := fx.cellN d0
  replace d1 := fx.cellN d1
  replace d2 := fx.cellN d2
  replace d3 := fx.cellN d3
  replace d4 := fx.cellN d4
  replace d5 := fx.cellN d5
  replace d6 := fx.cellN d6
  skip
  obtain ⟨e0, e1, e2⟩ := mo_box hbx
  have hca : c ≤ 9223372036854775807 := by have := hdl.2.1; unfold maxLen at this; omega
  have hla : 1 ≤ c := by have := hdl.1; rw [hl1] at this; exact this
  have kM := (show ∀ (u : World) (f : Fr (fun _ => False) w u), _ from kMH) wc gx
  have kA2 : ∀ (u : World), Fr (fun _ => False) wc u → Calls Tryz.prog 9 #[.agg #[ct name, .slice ao imports.length cap, .slice a (1) c]] u fun e w' => e = .returned (ci E2) ∧ Fr (fun _ => False) u w' := fun u hu => by
    have := kA u a c (gx.same hu) (hdl.keep hu)
    rw [hl1] at this
    exact this
  have kO2 : ∀ (u : World) (g : Nat), Fr (fun _ => False) wc u → u.heap[g]? = some (.cells #[ci d.kind, .bool d.ex, ct d.name, ci d.type, .slice pa d.params.length pc, .slice ea d.e.len ec, .slice ba d.body.len bc] 30 (0, 0)) → Calls Tryz.prog 9 #[.agg #[ct name, .slice none 0 0, .slice (some ⟨g, 0, none⟩) 1 1]] u fun e w' => e = .returned (ci E3) ∧ Fr (fun _ => False) u w' := fun u g hu hh => kO u g (gx.same hu) hh
  clear kA kO hbx hdl hch1 hone1 hl1
  go_upto_region 4 with fail
  go_upto_region 5 with (go_at_call 9; refine kM.mono ?_; rintro e w5 ⟨rfl, f5⟩)
  have gx5 : Fr (fun _ => False) w w5 := gx.same f5
  replace c0 := f5.cellN c0
  replace c1 := f5.cellN c1
  replace c2 := f5.cellN c2
  replace d0 := f5.cellN d0
  replace d1 := f5.cellN d1
  replace d2 := f5.cellN d2
  replace d3 := f5.cellN d3
  replace d4 := f5.cellN d4
  replace d5 := f5.cellN d5
  replace d6 := f5.cellN d6
  replace e0 := f5.cellN e0
  replace e1 := f5.cellN e1
  replace e2 := f5.cellN e2
  have kA3 := kA2 w5 f5
  have gxH : Hidden (Fr (fun _ => False) w w5) := gx5
  clear kM gx gx5
  by_cases hbig : 64 < 1
  · exact absurd hbig (by decide)
  · have t1 : ¬ ((64 : Int) < (1 : Int)) := by decide
    have t2 : decide ((64 : Int) < (1 : Int)) = false := by decide
    by_cases hE : E1 = 0
    · have h3 : E2 = E3 := (show 1 ≤ 64 → E1 = 0 → E2 = E3 from b3H) (by omega) hE
      subst hE
      subst h3
      clear hbig b1H b2H b3H kA3
      go_upto_region 9 with fail
      go_region_held3 (fun w' => Fr (fun _ => False) w5 w' ∧ w'.cell? ⟨w.heap.size, 0, none⟩ = some (ct name) ∧ w'.cell? ⟨w.heap.size + 1, 0, none⟩ = some (ci d.kind) ∧ w'.cell? ⟨w.heap.size + 1, 1, none⟩ = some (.bool d.ex) ∧ w'.cell? ⟨w.heap.size + 1, 2, none⟩ = some (ct d.name) ∧ w'.cell? ⟨w.heap.size + 1, 3, none⟩ = some (ci d.type) ∧ w'.cell? ⟨w.heap.size + 1, 4, none⟩ = some (.slice pa d.params.length pc) ∧ w'.cell? ⟨w.heap.size + 1, 5, none⟩ = some (.slice ea d.e.len ec) ∧ w'.cell? ⟨w.heap.size + 1, 6, none⟩ = some (.slice ba d.body.len bc) ∧ w'.cell? ⟨g, 0, none⟩ = some (ct name) ∧ w'.cell? ⟨g, 1, none⟩ = some (.slice ao imports.length cap) ∧ w'.cell? ⟨g, 2, none⟩ = some (.slice a (1) c)) (first | (refine ⟨?_, ?_, ?_, ?_, ?_, ?_, ?_, ?_, ?_, ?_, ?_, ?_⟩; (focus ((repeat (first | (with_reducible assumption) | (with_reducible exact Fr.refl _ _) | (with_reducible refine Fr.same ?_ (Fr.alloc _ _ _)) | (with_reducible refine Fr.same ?_ (Fr.drew _ _)))); done)); (focus (refine Fr.cellN (w := w5) ?_ c0; (repeat (first | (with_reducible assumption) | (with_reducible exact Fr.refl _ _) | (with_reducible refine Fr.same ?_ (Fr.alloc _ _ _)) | (with_reducible refine Fr.same ?_ (Fr.drew _ _)))); done)); (focus (refine Fr.cellN (w := w5) ?_ d0; (repeat (first | (with_reducible assumption) | (with_reducible exact Fr.refl _ _) | (with_reducible refine Fr.same ?_ (Fr.alloc _ _ _)) | (with_reducible refine Fr.same ?_ (Fr.drew _ _)))); done)); (focus (refine Fr.cellN (w := w5) ?_ d1; (repeat (first | (with_reducible assumption) | (with_reducible exact Fr.refl _ _) | (with_reducible refine Fr.same ?_ (Fr.alloc _ _ _)) | (with_reducible refine Fr.same ?_ (Fr.drew _ _)))); done)); (focus (refine Fr.cellN (w := w5) ?_ d2; (repeat (first | (with_reducible assumption) | (with_reducible exact Fr.refl _ _) | (with_reducible refine Fr.same ?_ (Fr.alloc _ _ _)) | (with_reducible refine Fr.same ?_ (Fr.drew _ _)))); done)); (focus (refine Fr.cellN (w := w5) ?_ d3; (repeat (first | (with_reducible assumption) | (with_reducible exact Fr.refl _ _) | (with_reducible refine Fr.same ?_ (Fr.alloc _ _ _)) | (with_reducible refine Fr.same ?_ (Fr.drew _ _)))); done)); (focus (refine Fr.cellN (w := w5) ?_ d4; (repeat (first | (with_reducible assumption) | (with_reducible exact Fr.refl _ _) | (with_reducible refine Fr.same ?_ (Fr.alloc _ _ _)) | (with_reducible refine Fr.same ?_ (Fr.drew _ _)))); done)); (focus (refine Fr.cellN (w := w5) ?_ d5; (repeat (first | (with_reducible assumption) | (with_reducible exact Fr.refl _ _) | (with_reducible refine Fr.same ?_ (Fr.alloc _ _ _)) | (with_reducible refine Fr.same ?_ (Fr.drew _ _)))); done)); (focus (refine Fr.cellN (w := w5) ?_ d6; (repeat (first | (with_reducible assumption) | (with_reducible exact Fr.refl _ _) | (with_reducible refine Fr.same ?_ (Fr.alloc _ _ _)) | (with_reducible refine Fr.same ?_ (Fr.drew _ _)))); done)); (focus (refine Fr.cellN (w := w5) ?_ e0; (repeat (first | (with_reducible assumption) | (with_reducible exact Fr.refl _ _) | (with_reducible refine Fr.same ?_ (Fr.alloc _ _ _)) | (with_reducible refine Fr.same ?_ (Fr.drew _ _)))); done)); (focus (refine Fr.cellN (w := w5) ?_ e1; (repeat (first | (with_reducible assumption) | (with_reducible exact Fr.refl _ _) | (with_reducible refine Fr.same ?_ (Fr.alloc _ _ _)) | (with_reducible refine Fr.same ?_ (Fr.drew _ _)))); done)); (focus (refine Fr.cellN (w := w5) ?_ e2; (repeat (first | (with_reducible assumption) | (with_reducible exact Fr.refl _ _) | (with_reducible refine Fr.same ?_ (Fr.alloc _ _ _)) | (with_reducible refine Fr.same ?_ (Fr.drew _ _)))); done)))) (first
        | (go_at_call 9; with_reducible (refine Calls.mono (kA2 _ ?_) ?_); (focus (repeat (first | (with_reducible assumption) | (with_reducible exact Fr.refl _ _) | (with_reducible refine Fr.same ?_ (Fr.alloc _ _ _)) | (with_reducible refine Fr.same ?_ (Fr.drew _ _))))); rintro e wa ⟨rfl, fa⟩; have ga : Fr (fun _ => False) w5 wa := (by refine Fr.same ?_ fa; (repeat (first | (with_reducible assumption) | (with_reducible exact Fr.refl _ _) | (with_reducible refine Fr.same ?_ (Fr.alloc _ _ _)) | (with_reducible refine Fr.same ?_ (Fr.drew _ _))))); have ga2 := f5.same ga; (try (have hDa : wa.heap[w5.heap.size]? = some (.cells #[ci d.kind, .bool d.ex, ct d.name, ci d.type, .slice pa d.params.length pc, .slice ea d.e.len ec, .slice ba d.body.len bc] 30 (0, 0)) := fa.heap (by with_reducible exact h11 _ _; done) (fun f => f))))
        | (go_at_call 9; with_reducible (refine Calls.mono (kO2 _ _ ?_ ?_) ?_); (focus (repeat (first | (with_reducible assumption) | (with_reducible exact Fr.refl _ _) | (with_reducible refine Fr.same ?_ (Fr.alloc _ _ _)) | (with_reducible refine Fr.same ?_ (Fr.drew _ _))))); (focus (first | (with_reducible exact h11 _ _) | (with_reducible exact alloc_new _ _) | (with_reducible exact hDa))); rintro e wb ⟨rfl, fb⟩; have gb : Fr (fun _ => False) w5 wb := (by refine Fr.same ?_ fb; (repeat (first | (with_reducible assumption) | (with_reducible exact Fr.refl _ _) | (with_reducible refine Fr.same ?_ (Fr.alloc _ _ _)) | (with_reducible refine Fr.same ?_ (Fr.drew _ _))))); have gb2 := f5.same gb)
        )
      all_goals (go_split_ands)
      all_goals go_wp2_with fail
      all_goals go_ret
      all_goals exact ⟨rfl, (show Fr (fun _ => False) w w5 from gxH).same (by (repeat (first | (with_reducible assumption) | (with_reducible exact Fr.refl _ _) | (with_reducible refine Fr.same ?_ (Fr.alloc _ _ _)) | (with_reducible refine Fr.same ?_ (Fr.drew _ _)))))⟩
    · have h2 : E2 = E1 := (show 1 ≤ 64 → E1 ≠ 0 → E2 = E1 from b2H) (by omega) hE
      subst h2
      have t3 : (E2 != 0) = true := by simpa using hE
      have t4 : (E2 == 0) = false := by simpa using hE
      clear hbig hE b1H b2H b3H
      go_wp2_with (go_at_call 9; refine kA3.mono ?_; rintro e w6 ⟨rfl, f6⟩)
      go_ret
      exact ⟨rfl, (show Fr (fun _ => False) w w5 from gxH).same f6⟩
theorem first_any (m : Mo) (d : De) (v u : Value) (w : World) (hm : MoI w m v) (om : OkM m) (hs : m.decls.length * 112 ≤ 140737488351232) (hn : ∀ ao cap cap', v = moV m ao cap none cap' → cap' = 0) (hd : DeV w d u) (od : OkD d) (ht : F.Tab w) :
    Calls Tryz.prog 4 #[v, u] w fun e w' => e = .returned (.bool true) ∧ Fr (fun _ => False) w w' := by
  have hm0 := hm
  obtain ⟨ao, cap, aod, capd, rfl, hi, hl⟩ := hm
  obtain ⟨pv, ev, bv, rfl, hd⟩ := hd
  have hd0 := hd
  obtain ⟨pa, pc, ea, ec, ba, bc, rfl, rfl, rfl, _⟩ := hd
  cases aod with
  | none =>
    obtain rfl := hn ao cap capd rfl
    have h0 : m.decls = [] := by
      have := hl.1
      exact List.eq_nil_of_length_eq_zero (by omega)
    obtain ⟨name, imports, decls⟩ := m
    simp only at h0
    subst h0
    exact first_none name imports d ao cap pa pc ea ec ba bc w hm0 om (by simp) hd0 od ht
  | some ad =>
    rcases hl.2.2 with h0 | ⟨b, off, e, hc⟩
    · refine first_some m d ao cap ad capd pa pc ea ec ba bc w hm0 om hs hd0 od ht [] (by rw [h0]; rfl) (fun u hu => by simp at hu) (fun j u hu => by simp at hu)
    · cases e
      obtain ⟨cs, h1, h2, h3⟩ := Rw.chunks_de w b m.decls off hc
      exact first_some m d ao cap ⟨b, off, none⟩ capd pa pc ea ec ba bc w hm0 om hs hd0 od ht cs h1 h3 (fun j u hu => by rw [Addr.add_lit]; exact h2 j u hu)
end Go.Proofs.YtddedomocnpdjaaGreatDoor
namespace Go.Proofs.YtddedomocnpdjaaGreatDoor.treeFirst
open Go.RowKit Te
theorem walk (v : Value) (m : Mo) (u : Value) (d : De) (W : World) (hm : MoI W m v) (om : OkM m) (hs : m.decls.length * 112 ≤ reachBytes) (hn : ∀ ao cap cap', v = moV m ao cap none cap' → cap' = 0) (hd : DeV W d u) (od : OkD d) (ht : F.Tab W) :
    Calls Tryz.prog 4 #[v, u] W fun e w' => e = .returned (.bool true) ∧ Fr (fun _ => False) W w' := first_any m d v u W hm om hs hn hd od ht
end Go.Proofs.YtddedomocnpdjaaGreatDoor.treeFirst
