/- TreeParts: a module without declarations; the whole. -/
import Derived.Test.YtddedomocnpdjaaGreatDoorTrPw
import Derived.Deep.DeepCutAuto
import Derived.Deep.RegionHeld3
namespace Go.Proofs.YtddedomocnpdjaaGreatDoor
open Go.RowKit Te
set_option linter.unusedSimpArgs false
set_option linter.unusedVariables false

theorem ex_bk : ∀ k : Exs, k.size + 1 ≤ In.bkX k
  | .nil => Nat.le_refl _
  | .cons h k r => by have := ex_bk k; have := ex_bk r; simp only [Exs.size, In.bkX]; omega
theorem st_bk : ∀ k : Sts, k.size + 1 ≤ In.bkS k
  | .nil => Nat.le_refl _
  | .cons h e b l r => by have := ex_bk e; have := st_bk b; have := st_bk l; have := st_bk r; simp only [Sts.size, In.bkS]; omega
theorem us_len : ∀ k : Exs, (usE k).length ≤ k.size
  | .nil => Nat.le_refl _
  | .cons h k r => by
    have := us_len k
    have := us_len r
    simp only [usE, Exs.size, List.length_append]
    split <;> simp <;> omega
theorem us_bk : ∀ (k : Exs), ∀ x ∈ usE k, x.length ≤ In.bkX k
  | .nil, x, hx => by simp [usE] at hx
  | .cons h k r, x, hx => by
    simp only [usE, List.mem_append] at hx
    simp only [In.bkX]
    rcases hx with (hx | hx) | hx
    · split at hx
      · simp at hx; subst hx; omega
      · simp at hx
    · have := us_bk k x hx; omega
    · have := us_bk r x hx; omega
theorem uss_len : ∀ k : Sts, (usS k).length ≤ k.size
  | .nil => Nat.le_refl _
  | .cons h e b l r => by
    have := us_len e
    have := uss_len b
    have := uss_len l
    have := uss_len r
    simp only [usS, Sts.size, List.length_append]
    omega
theorem uss_bk : ∀ (k : Sts), ∀ x ∈ usS k, x.length ≤ In.bkS k
  | .nil, x, hx => by simp [usS] at hx
  | .cons h e b l r, x, hx => by
    simp only [usS, List.mem_append] at hx
    simp only [In.bkS]
    rcases hx with ((hx | hx) | hx) | hx
    · have := us_bk e x hx; omega
    · have := uss_bk b x hx; omega
    · have := uss_bk l x hx; omega
    · have := uss_bk r x hx; omega
theorem sum_len {α : Type} (f : α → Nat) : ∀ l : List α, l.length ≤ (l.map fun p => f p + 1).sum
  | [] => Nat.le_refl _
  | x :: l => by have := sum_len f l; simp only [List.length_cons, List.map_cons, List.sum_cons]; omega
theorem nd_bk (d : De) : ndD d ≤ In.bkD d := by
  have := ex_bk d.e
  have := st_bk d.body
  have := sum_len (fun p : Pa => p.name.length) d.params
  unfold ndD In.bkD
  omega
theorem ndM_bk : ∀ l : List De, ndM l ≤ (l.map In.bkD).sum
  | [] => Nat.le_refl _
  | d :: l => by have := ndM_bk l; have := nd_bk d; rw [ndM_cons]; simp only [List.map_cons, List.sum_cons]; omega
theorem usM_len : ∀ l : List De, (usM l).length ≤ (l.map In.bkD).sum
  | [] => Nat.le_refl _
  | d :: l => by
    have := usM_len l
    have := us_len d.e
    have := uss_len d.body
    have := ex_bk d.e
    have := st_bk d.body
    rw [usM_cons]
    simp only [List.map_cons, List.sum_cons, List.length_append, In.bkD]
    omega
theorem dl_len : ∀ l : List De, l.length ≤ (l.map In.bkD).sum
  | [] => Nat.le_refl _
  | d :: l => by have := dl_len l; have := nd_bk d; have : 1 ≤ ndD d := by unfold ndD; omega
                 simp only [List.length_cons, List.map_cons, List.sum_cons]; omega
set_option maxRecDepth 20000 in
set_option maxHeartbeats 32000000 in
theorem parts_none (name : Bs) (imports : List Bs) (d : De) (ao : Option Addr) (cap : Nat) (pa : Option Addr) (pc : Nat) (ea : Option Addr) (ec : Nat) (ba : Option Addr) (bc : Nat) (w : World) (hm : MoI w ⟨name, imports, []⟩ (.agg #[ct name, .slice ao imports.length cap, .slice none 0 0])) (hs : 0 * 112 ≤ 140737488351232) (hd : DeI w d (.slice pa d.params.length pc) (.slice ea d.e.len ec) (.slice ba d.body.len bc)) (ht : F.Tab w)
    (hnb : ndM ([d]) ≤ 1099511627776) (hub : (usM ([d])).length * 16 ≤ 140737488355328)
    :
    Calls Tryz.prog 3 #[.agg #[ct name, .slice ao imports.length cap, .slice none 0 0], deV d (.slice pa d.params.length pc) (.slice ea d.e.len ec) (.slice ba d.body.len bc)] w fun e w' => e = .returned (.bool true) ∧ Fr (fun _ => False) w w' := by
  obtain ⟨W0, hW0⟩ : ∃ W, W = ((w.alloc (.cells #[ct name, .slice ao imports.length cap, .slice none 0 0] 25 (0, 0))).alloc (.cells #[ci d.kind, .bool d.ex, ct d.name, ci d.type, .slice pa d.params.length pc, .slice ea d.e.len ec, .slice ba d.body.len bc] 30 (0, 0))) := ⟨_, rfl⟩
  have f0 : Fr (fun _ => False) w W0 := by rw [hW0]; exact (Fr.alloc _ _ _).same (Fr.alloc _ _ _)
  have hA : W0.heap[w.heap.size]? = some (.cells #[ct name, .slice ao imports.length cap, .slice none 0 0] 25 (0, 0)) := by rw [hW0]; exact g21 _ _ _
  have hB : W0.heap[w.heap.size + 1]? = some (.cells #[ci d.kind, .bool d.ex, ct d.name, ci d.type, .slice pa d.params.length pc, .slice ea d.e.len ec, .slice ba d.body.len bc] 30 (0, 0)) := by rw [hW0]; exact g22 _ _ _
  have hW0H : Hidden (W0 = _) := hW0
  have f0H : Hidden (Fr (fun _ => False) w W0) := f0
  have hsH : Hidden (0 * 112 ≤ 140737488351232) := hs
  have kl := live_any W0 (tab_fr ht f0)
  have hN : ndM ([d]) = ndM [] + ndM [d] := ndM_app [] d
  have hus : usM ([d]) = usM [] ++ usM [d] := usM_app [] d
  have hn1 : ndM [] ≤ 1099511627776 := by omega
  have hn2 : ndM [d] ≤ 1099511627776 := by omega
  have hu0 : (usM ([d])).length = (usM []).length + (usM [d]).length := (congrArg List.length hus).trans List.length_append
  have hu1 : (usM []).length * 16 ≤ 140737488355328 := by omega
  have hu2 : (usM [d]).length * 16 ≤ 140737488355328 := by omega
  have mM : ∀ u, Fr (fun _ => False) w u → MoI u ⟨name, imports, []⟩ (.agg #[ct name, .slice ao imports.length cap, .slice none 0 0]) := fun u f => hm.keep f
  have mA := fun (u : World) (a : Option Addr) (c : Nat) (hu : Fr (fun _ => False) w u) (h : DeL u a c ([d])) => (show MoI u ⟨name, imports, [d]⟩ (.agg #[ct name, .slice ao imports.length cap, .slice a ([d]).length c]) from ⟨ao, cap, a, c, rfl, by obtain ⟨_, _, _, _, e, h1, _⟩ := hm; cases e; exact h1.keep hu, h⟩)
  have mO := fun (u : World) (g : Nat) (hu : Fr (fun _ => False) w u) (h : u.heap[g]? = some (.cells #[ci d.kind, .bool d.ex, ct d.name, ci d.type, .slice pa d.params.length pc, .slice ea d.e.len ec, .slice ba d.body.len bc] 30 (0, 0))) => (show MoI u ⟨name, [], [d]⟩ (.agg #[ct name, .slice none 0 0, .slice (some ⟨g, 0, none⟩) 1 1]) from ⟨none, 0, some ⟨g, 0, none⟩, 1, rfl, ⟨by simp, by simp [maxLen], Or.inl rfl⟩, ⟨by simp, by simp [maxLen], Or.inr ⟨g, 0, rfl, fun i x hx => by
    match i, hx with
    | 0, hx =>
      obtain rfl : d = x := by simpa using hx
      refine ⟨_, _, _, hd.keep hu, fun j y hy => ?_⟩
      rw [Nat.zero_mul, Nat.add_zero, Nat.zero_add, cell_of_row u g j _ _ (0, 0) h]
      simpa [deC] using hy⟩⟩⟩)
  have hml : 0 ≤ 9223372036854775807 := by omega
  have hcap : imports.length ≤ cap ∧ cap ≤ 9223372036854775807 := by obtain ⟨_, _, _, _, e, h1, _⟩ := hm; cases e; have := h1.2.1; unfold maxLen at this; exact ⟨h1.1, by omega⟩
  have hdH : Hidden (DeI w d (.slice pa d.params.length pc) (.slice ea d.e.len ec) (.slice ba d.body.len bc)) := hd
  have numH : Hidden (ndM [] ≤ 1099511627776 ∧ ndM [d] ≤ 1099511627776 ∧ ndM ([d]) ≤ 1099511627776 ∧ (usM []).length * 16 ≤ 140737488355328 ∧ (usM [d]).length * 16 ≤ 140737488355328 ∧ (usM ([d])).length * 16 ≤ 140737488355328) := ⟨hn1, hn2, hnb, hu1, hu2, hub⟩
  have hu0H : Hidden ((usM ([d])).length = (usM []).length + (usM [d]).length) := hu0
  clear hW0 hm hs hd ht hn1 hn2 hnb hu0 hu1 hu2 hub hN hus
  go_enter Tryz.func3, Tryz.ntmps3
  go_wp2_with fail
  rw [← (show W0 = _ from hW0H)]
  go_at_call 5
  refine kl.mono ?_
  rintro e V0 ⟨rfl, f1⟩
  obtain ⟨c0, c1, c2⟩ := mo_box (f1.heap hA (fun f => f))
  obtain ⟨d0, d1, d2, d3, d4, d5, d6⟩ := de_box (f1.heap hB (fun f => f))
  obtain ⟨V, hV⟩ : ∃ V, V = (V0.alloc (.cells #[ci d.kind, .bool d.ex, ct d.name, ci d.type, .slice pa d.params.length pc, .slice ea d.e.len ec, .slice ba d.body.len bc] 30 (0, 0))).alloc (.cells #[ct name, .slice none 0 0, .slice (some ⟨V0.heap.size, 0, none⟩) 1 1] 25 (0, 0)) := ⟨_, rfl⟩
  have fV : Fr (fun _ => False) V0 V := by rw [hV]; exact (Fr.alloc _ _ _).same (Fr.alloc _ _ _)
  have hOD : Hidden (V.heap[V0.heap.size]? = some (.cells #[ci d.kind, .bool d.ex, ct d.name, ci d.type, .slice pa d.params.length pc, .slice ea d.e.len ec, .slice ba d.body.len bc] 30 (0, 0))) := by rw [hV]; exact g21 _ _ _
  have hOO : Hidden (V.heap[V0.heap.size + 1]? = some (.cells #[ct name, .slice none 0 0, .slice (some ⟨V0.heap.size, 0, none⟩) 1 1] 25 (0, 0))) := by rw [hV]; exact g22 _ _ _
  have gV : Fr (fun _ => False) w V := (f0.same f1).same fV
  go_upto_region 4 with fail
  rw [← hV]
  replace c0 := fV.cellN c0
  replace c1 := fV.cellN c1
  replace c2 := fV.cellN c2
  replace d0 := fV.cellN d0
  replace d1 := fV.cellN d1
  replace d2 := fV.cellN d2
  replace d3 := fV.cellN d3
  replace d4 := fV.cellN d4
  replace d5 := fV.cellN d5
  replace d6 := fV.cellN d6
  have hch1 : Rw.Chunks (Rw.RD V) 7 [d] [ci d.kind, .bool d.ex, ct d.name, ci d.type, .slice pa d.params.length pc, .slice ea d.e.len ec, .slice ba d.body.len bc] := ⟨deC d _ _ _, [], by simp [deC], rfl, ⟨_, _, _, (show DeI w d _ _ _ from hdH).keep gV, rfl⟩, rfl⟩
  have hone1 : ∀ u ∈ [ci d.kind, .bool d.ex, ct d.name, ci d.type, .slice pa d.params.length pc, .slice ea d.e.len ec, .slice ba d.body.len bc], u.oneCell' = true := by
    intro u hu
    simp only [List.mem_cons, List.not_mem_nil, or_false] at hu
    rcases hu with rfl | rfl | rfl | rfl | rfl | rfl | rfl <;> rfl
  have hl1 : [d].length = 1 := rfl
  have gVH : Hidden (Fr (fun _ => False) w V) := gV
  clear hA hB f0 f1 kl hdH gV hV fV
  go_cut [6] (fun p wx => AllR V name (.slice ao imports.length cap) ([d]) p wx)
  case first =>
    clear mM mA mO numH hOD hOO
    have hVlt : w.heap.size + 1 < V.heap.size := World.block_lt_of_cell? V _ d0
    have m0 : V.heap.size ≠ w.heap.size := World.new_ne V _ c0
    have m1 : V.heap.size ≠ w.heap.size + 1 := World.new_ne V _ d0
    have m2 : V.heap.size + 1 ≠ w.heap.size := by omega
    have m3 : V.heap.size + 1 ≠ w.heap.size + 1 := by omega
    have m4 : V.heap.size + 1 + 1 ≠ w.heap.size := by omega
    have m5 : V.heap.size + 1 + 1 ≠ w.heap.size + 1 := by omega
    go_region_held3 (fun w' => w'.cell? ⟨w.heap.size, 0, none⟩ = some (ct name) ∧ w'.cell? ⟨w.heap.size, 1, none⟩ = some (.slice ao imports.length cap) ∧ w'.cell? ⟨w.heap.size, 2, none⟩ = some (.slice none 0 0) ∧ w'.cell? ⟨w.heap.size + 1, 0, none⟩ = some (ci d.kind) ∧ w'.cell? ⟨w.heap.size + 1, 1, none⟩ = some (.bool d.ex) ∧ w'.cell? ⟨w.heap.size + 1, 2, none⟩ = some (ct d.name) ∧ w'.cell? ⟨w.heap.size + 1, 3, none⟩ = some (ci d.type) ∧ w'.cell? ⟨w.heap.size + 1, 4, none⟩ = some (.slice pa d.params.length pc) ∧ w'.cell? ⟨w.heap.size + 1, 5, none⟩ = some (.slice ea d.e.len ec) ∧ w'.cell? ⟨w.heap.size + 1, 6, none⟩ = some (.slice ba d.body.len bc)) (first | (refine ⟨by with_reducible assumption, by with_reducible assumption, by with_reducible assumption, by with_reducible assumption, by with_reducible assumption, by with_reducible assumption, by with_reducible assumption, by with_reducible assumption, by with_reducible assumption, by with_reducible assumption⟩) | (refine ⟨?_, ?_, ?_, ?_, ?_, ?_, ?_, ?_, ?_, ?_⟩; (focus (refine Fr.cellN (w := V) ?_ c0; (repeat (first | (with_reducible assumption) | (with_reducible exact Fr.refl _ _) | (with_reducible refine Fr.same ?_ (Fr.alloc _ _ _)) | (with_reducible refine Fr.same ?_ (Fr.drew _ _)))); done)); (focus (refine Fr.cellN (w := V) ?_ c1; (repeat (first | (with_reducible assumption) | (with_reducible exact Fr.refl _ _) | (with_reducible refine Fr.same ?_ (Fr.alloc _ _ _)) | (with_reducible refine Fr.same ?_ (Fr.drew _ _)))); done)); (focus (refine Fr.cellN (w := V) ?_ c2; (repeat (first | (with_reducible assumption) | (with_reducible exact Fr.refl _ _) | (with_reducible refine Fr.same ?_ (Fr.alloc _ _ _)) | (with_reducible refine Fr.same ?_ (Fr.drew _ _)))); done)); (focus (refine Fr.cellN (w := V) ?_ d0; (repeat (first | (with_reducible assumption) | (with_reducible exact Fr.refl _ _) | (with_reducible refine Fr.same ?_ (Fr.alloc _ _ _)) | (with_reducible refine Fr.same ?_ (Fr.drew _ _)))); done)); (focus (refine Fr.cellN (w := V) ?_ d1; (repeat (first | (with_reducible assumption) | (with_reducible exact Fr.refl _ _) | (with_reducible refine Fr.same ?_ (Fr.alloc _ _ _)) | (with_reducible refine Fr.same ?_ (Fr.drew _ _)))); done)); (focus (refine Fr.cellN (w := V) ?_ d2; (repeat (first | (with_reducible assumption) | (with_reducible exact Fr.refl _ _) | (with_reducible refine Fr.same ?_ (Fr.alloc _ _ _)) | (with_reducible refine Fr.same ?_ (Fr.drew _ _)))); done)); (focus (refine Fr.cellN (w := V) ?_ d3; (repeat (first | (with_reducible assumption) | (with_reducible exact Fr.refl _ _) | (with_reducible refine Fr.same ?_ (Fr.alloc _ _ _)) | (with_reducible refine Fr.same ?_ (Fr.drew _ _)))); done)); (focus (refine Fr.cellN (w := V) ?_ d4; (repeat (first | (with_reducible assumption) | (with_reducible exact Fr.refl _ _) | (with_reducible refine Fr.same ?_ (Fr.alloc _ _ _)) | (with_reducible refine Fr.same ?_ (Fr.drew _ _)))); done)); (focus (refine Fr.cellN (w := V) ?_ d5; (repeat (first | (with_reducible assumption) | (with_reducible exact Fr.refl _ _) | (with_reducible refine Fr.same ?_ (Fr.alloc _ _ _)) | (with_reducible refine Fr.same ?_ (Fr.drew _ _)))); done)); (focus (refine Fr.cellN (w := V) ?_ d6; (repeat (first | (with_reducible assumption) | (with_reducible exact Fr.refl _ _) | (with_reducible refine Fr.same ?_ (Fr.alloc _ _ _)) | (with_reducible refine Fr.same ?_ (Fr.drew _ _)))); done))) | go_keep) (first
      | (refine Rw.step_rows (R := Rw.RD V) rfl _ _ 23 30 (.agg #[.int .i64 0, .bool false, .string ⟨#[]⟩, .int .i64 0, .slice none 0 0, .slice none 0 0, .slice none 0 0]) 7 112 Tryz.underlying23 Rw.info_de rfl (by decide) rfl V.heap.size (.slice (some ⟨_, 0, none⟩) 0 0) [] [d] [ci d.kind, .bool d.ex, ct d.name, ci d.type, .slice pa d.params.length pc, .slice ea d.e.len ec, .slice ba d.body.len bc] ⟨_, 0, none⟩ 1 1 rfl ?_ rfl rfl hch1 ?_ hone1 ?_ ?_ ?_ ?_; (focus (refine Rw.Row.new _ _ 7 _ _ _ ?_ ?_; (focus (first | (exact Nat.le_refl _) | omega)); (focus (first | (with_reducible exact h11 _ _) | (with_reducible exact h21 _ _ _) | (with_reducible exact h22 _ _ _) | (with_reducible exact h31 _ _ _ _) | (with_reducible exact h32 _ _ _ _) | (with_reducible exact h33 _ _ _ _))))); (focus (refine de_row (t := 30) ?_; (first | (with_reducible exact h11 _ _) | (with_reducible exact h21 _ _ _) | (with_reducible exact h22 _ _ _) | (with_reducible exact h31 _ _ _ _) | (with_reducible exact h32 _ _ _ _) | (with_reducible exact h33 _ _ _ _)))); (focus (simp [maxLen]; done)); (focus (simp; done)); (focus (refine Fr.size (S := fun _ => False) ?_; (repeat (first | (with_reducible assumption) | (with_reducible exact Fr.refl _ _) | (with_reducible refine Fr.same ?_ (Fr.alloc _ _ _)) | (with_reducible refine Fr.same ?_ (Fr.drew _ _)))))); intro v5 w5 hr5 f5 ho5; rw [List.nil_append] at hr5; have g5 : Fr (fun _ => False) V w5 := (by refine Fr.over ?_ f5 ?_; (focus (repeat (first | (with_reducible assumption) | (with_reducible exact Fr.refl _ _) | (with_reducible refine Fr.same ?_ (Fr.alloc _ _ _)) | (with_reducible refine Fr.same ?_ (Fr.drew _ _))))); (focus (intro k e; rw [own_is] at e; injection e with e; omega))); have q0 := g5.cellN c0; have q1 := g5.cellN c1; have q2 := g5.cellN c2; have r0 := g5.cellN d0; have r1 := g5.cellN d1; have r2 := g5.cellN d2; have r3 := g5.cellN d3; have r4 := g5.cellN d4; have r5 := g5.cellN d5; have r6 := g5.cellN d6; obtain ⟨a5, c5, e5, hc5, hm5, _⟩ := hr5.slice; rw [hl1] at e5; subst e5; (try (have hY := keepX (g := V.heap.size) (o := (.cells #[.string ⟨#[]⟩, .slice none 0 0, .slice none 0 0] 25 (0, 0))) f5 ho5 (by (first | (with_reducible exact h11 _ _) | (with_reducible exact h21 _ _ _) | (with_reducible exact h22 _ _ _) | (with_reducible exact h31 _ _ _ _) | (with_reducible exact h32 _ _ _ _) | (with_reducible exact h33 _ _ _ _)); done) (fun e => by rw [own_is] at e; injection e with e; omega); obtain ⟨y0, y1, y2⟩ := mo_box hY.1; have z0 := frozen_row hY.1 0; have z1 := frozen_row hY.1 1; have z2 := frozen_row hY.1 2)); (try (have hY := keepX (g := V.heap.size + 1) (o := (.cells #[.string ⟨#[]⟩, .slice none 0 0, .slice none 0 0] 25 (0, 0))) f5 ho5 (by (first | (with_reducible exact h11 _ _) | (with_reducible exact h21 _ _ _) | (with_reducible exact h22 _ _ _) | (with_reducible exact h31 _ _ _ _) | (with_reducible exact h32 _ _ _ _) | (with_reducible exact h33 _ _ _ _)); done) (fun e => by rw [own_is] at e; injection e with e; omega); obtain ⟨y0, y1, y2⟩ := mo_box hY.1; have z0 := frozen_row hY.1 0; have z1 := frozen_row hY.1 1; have z2 := frozen_row hY.1 2)); (try (have hY := keepX (g := V.heap.size + 1 + 1) (o := (.cells #[.string ⟨#[]⟩, .slice none 0 0, .slice none 0 0] 25 (0, 0))) f5 ho5 (by (first | (with_reducible exact h11 _ _) | (with_reducible exact h21 _ _ _) | (with_reducible exact h22 _ _ _) | (with_reducible exact h31 _ _ _ _) | (with_reducible exact h32 _ _ _ _) | (with_reducible exact h33 _ _ _ _)); done) (fun e => by rw [own_is] at e; injection e with e; omega); obtain ⟨y0, y1, y2⟩ := mo_box hY.1; have z0 := frozen_row hY.1 0; have z1 := frozen_row hY.1 1; have z2 := frozen_row hY.1 2)); have hr5H : Hidden (Rw.Row (Rw.RD V) 30 7 w5 V.heap.size (.slice a5 1 c5) [d]) := hr5; clear hr5 hc5 hm5)
      | (refine Rw.step_none (R := Rw.RD V) rfl _ _ 23 30 7 Tryz.underlying23 (by kernel_rfl) rfl V.heap.size (.slice (some ⟨_, 0, none⟩) 0 0) [] rfl ?_ rfl ?_; (focus (refine Rw.Row.new _ _ 7 _ _ _ ?_ ?_; (focus (first | (exact Nat.le_refl _) | omega)); (focus (first | (with_reducible exact h11 _ _) | (with_reducible exact h21 _ _ _) | (with_reducible exact h22 _ _ _) | (with_reducible exact h31 _ _ _ _) | (with_reducible exact h32 _ _ _ _) | (with_reducible exact h33 _ _ _ _))))))
      )
    all_goals go_wp2_with fail
    all_goals go_meet
    all_goals first
      | exact all_new hr5H hl1.symm g5
      | exact all_old hr5H hl1.symm g5 hY (by omega)
  case rest =>
  obtain ⟨gA, a, c, rfl, hbx, hdl, fx⟩ := hcut
  obtain ⟨V6, hV6⟩ : ∃ V6, V6 = wc := ⟨_, rfl⟩
  subst hV6
  have gx : Fr (fun _ => False) w V6 := (show Fr (fun _ => False) w V from gVH).same fx
  replace c0 := fx.cellN c0
  replace c1 := fx.cellN c1
  replace c2 := fx.cellN c2
  obtain ⟨o0, o1, o2⟩ := mo_box (fx.heap hOO (fun f => f))
  have hOD2 := fx.heap hOD (fun f => f)
  have m1 := mM
  have mA2 : ∀ u, Fr (fun _ => False) V6 u → MoI u ⟨name, imports, [d]⟩ (.agg #[ct name, .slice ao imports.length cap, .slice a (1) c]) := fun u hu => by
    have := mA u a c (gx.same hu) (hdl.keep hu)
    exact this
  have mO2 : ∀ u, Fr (fun _ => False) V6 u → MoI u ⟨name, [], [d]⟩ (.agg #[ct name, .slice none 0 0, .slice (some ⟨V0.heap.size, 0, none⟩) 1 1]) := fun u hu => mO u V0.heap.size (gx.same hu) (hu.heap hOD2 (fun f => f))
  have mM2 : ∀ u, Fr (fun _ => False) V6 u → MoI u ⟨name, imports, []⟩ (.agg #[ct name, .slice ao imports.length cap, .slice none 0 0]) := fun u hu => mM u (gx.same hu)
  obtain ⟨hn1, hn2, hn3, hu1, hu2, hu3⟩ := (show ndM [] ≤ 1099511627776 ∧ ndM [d] ≤ 1099511627776 ∧ ndM ([d]) ≤ 1099511627776 ∧ (usM []).length * 16 ≤ 140737488355328 ∧ (usM [d]).length * 16 ≤ 140737488355328 ∧ (usM ([d])).length * 16 ≤ 140737488355328 from numH)
  have kNm := fun u (f : Fr (fun _ => False) V6 u) => nodes_any ⟨name, imports, []⟩ _ u (mM2 u f) hn1
  have kNo := fun u (f : Fr (fun _ => False) V6 u) => nodes_any ⟨name, [], [d]⟩ _ u (mO2 u f) hn2
  have kNa := fun u (f : Fr (fun _ => False) V6 u) => nodes_any ⟨name, imports, [d]⟩ _ u (mA2 u f) hn3
  have kDm := fun u (f : Fr (fun _ => False) V6 u) => depthM_any ⟨name, imports, []⟩ _ u (mM2 u f)
  have kDo := fun u (f : Fr (fun _ => False) V6 u) => depthM_any ⟨name, [], [d]⟩ _ u (mO2 u f)
  have kDa := fun u (f : Fr (fun _ => False) V6 u) => depthM_any ⟨name, imports, [d]⟩ _ u (mA2 u f)
  have kUm := fun u (f : Fr (fun _ => False) V6 u) => uses_to ⟨name, imports, []⟩ _ u (mM2 u f) hu1
  have kUo := fun u (f : Fr (fun _ => False) V6 u) => uses_to ⟨name, [], [d]⟩ _ u (mO2 u f) hu2
  have kUa := fun u (f : Fr (fun _ => False) V6 u) => uses_to ⟨name, imports, [d]⟩ _ u (mA2 u f) hu3
  simp only at kNm kNo kNa kDm kDo kDa kUm kUo kUa
  have hN : ndM ([d]) = ndM [] + ndM [d] := ndM_app [] d
  have hN1 := ndM_one d
  have hD : dM ([d]) = max (dM []) (dM [d]) := dM_app [] d
  have hus : usM ([d]) = usM [] ++ usM [d] := usM_app [] d
  obtain ⟨L, hLe⟩ : ∃ L, L = U.setS (usM ([d])) := ⟨_, rfl⟩
  rw [← hLe] at kUa
  have hL1 : ∀ x ∈ U.setS (usM []) ++ U.setS (usM [d]), x ∈ L := fun x hx => by
    rw [hLe, U.mem_setS, show x ∈ usM ([d]) ↔ x ∈ usM [] ++ usM [d] from iff_of_eq (congrArg (x ∈ ·) hus), List.mem_append]
    rcases List.mem_append.1 hx with hx | hx
    · exact Or.inl (U.mem_setS.1 hx)
    · exact Or.inr (U.mem_setS.1 hx)
  have hL2 : L.length ≤ (U.setS (usM [])).length + (U.setS (usM [d])).length := by
    rw [hLe, congrArg U.setS hus]
    exact U.setS_app_len _ _
  have hL3 : ((U.setS (usM [])).length + (U.setS (usM [d])).length) * 16 ≤ 140737488355328 := by
    have h1 := U.setS_len (usM [])
    have h2 := U.setS_len (usM [d])
    have h3 : (usM ([d])).length = (usM []).length + (usM [d]).length := hu0H
    omega
  clear hLe hus hu0H
  rw [hN] at kNa hn3
  rw [hD] at kDa
  generalize ndM [] = na at *
  generalize ndM [d] = nb at *
  generalize dM [] = da at *
  generalize dM [d] = db at *
  obtain ⟨mx, hmx⟩ : ∃ mx, max da db = mx := ⟨_, rfl⟩
  rw [hmx] at kDa
  have hmxH : Hidden (max da db = mx) := hmx
  clear hmx
  generalize U.setS (usM []) = l1 at *
  generalize U.setS (usM [d]) = l2 at *
  skip
  obtain ⟨e0, e1, e2⟩ := mo_box hbx
  have gxH : Hidden (Fr (fun _ => False) w V6) := gx
  have hca : c ≤ 9223372036854775807 := by have := hdl.2.1; unfold maxLen at this; omega
  have hla : 1 ≤ c := by exact hdl.1
  clear hbx hdl hch1 hone1 hl1 mM mA mO m1 mA2 mO2 mM2 hOD2 gx fx gVH hOO hOD numH hu1 hu2 hu3 hN hD
  go_upto_region 5 with fail
  have t1 : IntKind.i64.wrap ((na : Int) + (nb : Int)) = (na : Int) + (nb : Int) := by rw [IntKind.wrap_i64]; omega
  have t2 : ((nb : Int) < 1) = False := by simp; omega
  have t3 : decide ((nb : Int) < 1) = false := by simp; omega
  have t4 : ((na : Int) + (nb : Int) != (na : Int) + (nb : Int)) = false := by simp
  have t5 : ((((na + nb : Nat)) : Int) != (na : Int) + (nb : Int)) = false := by simp
  have t6 : decide (nb < 1) = false := by simp; omega
  go_cut [44] (fun bv wx => bv = .bool false ∧ Fr (fun _ => False) V6 wx)
  case first =>
    refine wp_region_grow (by kernel_rfl) (by kernel_rfl) ?_
    (repeat (first | (refine grow_op (v := ?_) ?_ ?_ ?_; rotate_left; (focus (first | exact wanted_none rfl | (go_simp; done))); (focus (intro w' hw'; have c0 := hw'.cellN c0; have c1 := hw'.cellN c1; have c2 := hw'.cellN c2; have o0 := hw'.cellN o0; have o1 := hw'.cellN o1; have o2 := hw'.cellN o2; have e0 := hw'.cellN e0; have e1 := hw'.cellN e1; have e2 := hw'.cellN e2; (go_simp; first | with_reducible rfl | (go_at_call 6; refine calls_grow hw' ?_; first | (have q := kNm _ hw'; with_reducible exact q) | (have q := kNo _ hw'; with_reducible exact q) | (have q := kNa _ hw'; with_reducible exact q))))); (intro a' ha; simp only [Act.put, List.setIfInBounds_toArray, List.set_cons_zero, List.set_cons_succ] at ha; subst ha)) | (refine grow_no ?_ ?_; (focus (go_simp; done)); (intro a' ha; simp only [Act.put, List.setIfInBounds_toArray, List.set_cons_zero, List.set_cons_succ] at ha; subst ha)))); refine grow_nil ?_; intro w1 k1
    go_wp2_with fail
    go_meet
    exact ⟨rfl, k1⟩
  case rest =>
  obtain ⟨rfl, f5⟩ := hcut
  obtain ⟨w5, hw5⟩ : ∃ w5, w5 = wc := ⟨_, rfl⟩
  subst hw5
  replace c0 := f5.cellN c0
  replace c1 := f5.cellN c1
  replace c2 := f5.cellN c2
  replace o0 := f5.cellN o0
  replace o1 := f5.cellN o1
  replace o2 := f5.cellN o2
  replace e0 := f5.cellN e0
  replace e1 := f5.cellN e1
  replace e2 := f5.cellN e2
  clear t1 t2 t3 t4 t5 t6
  go_upto_region 8 with (go_at_call 7; refine (kDm _ f5).mono ?_; rintro e w6 ⟨rfl, f6⟩)
  replace c0 := f6.cellN c0
  replace c1 := f6.cellN c1
  replace c2 := f6.cellN c2
  replace o0 := f6.cellN o0
  replace o1 := f6.cellN o1
  replace o2 := f6.cellN o2
  replace e0 := f6.cellN e0
  replace e1 := f6.cellN e1
  replace e2 := f6.cellN e2
  replace f6 := f5.same f6
  go_upto_if 50 with (go_at_call 7; refine (kDo _ f6).mono ?_; rintro e w7 ⟨rfl, f7⟩)
  replace c0 := f7.cellN c0
  replace c1 := f7.cellN c1
  replace c2 := f7.cellN c2
  replace o0 := f7.cellN o0
  replace o1 := f7.cellN o1
  replace o2 := f7.cellN o2
  replace e0 := f7.cellN e0
  replace e1 := f7.cellN e1
  replace e2 := f7.cellN e2
  replace f7 := f6.same f7
  go_cut [7] (fun nv wx => nv = ci mx ∧ Fr (fun _ => False) w7 wx)
  case first =>
    by_cases hlt : da < db
    · have q1 : decide (da < db) = true := by simpa using hlt
      have q2H : Hidden (mx = db) := by have : max da db = mx := hmxH; show _ = _; omega
      go_wp2_with (go_at_call 7; refine (kDo _ f7).mono ?_; rintro e w8 ⟨rfl, f8⟩)
      go_meet
      exact ⟨by rw [show mx = db from q2H], f8⟩
    · have q1 : decide (da < db) = false := by simpa using hlt
      have q2H : Hidden (mx = da) := by have : max da db = mx := hmxH; show _ = _; omega
      go_wp2_with fail
      go_meet
      exact ⟨by rw [show mx = da from q2H], Fr.refl _ _⟩
  case rest =>
  obtain ⟨rfl, f9⟩ := hcut
  obtain ⟨w9, hw9⟩ : ∃ w9, w9 = wc := ⟨_, rfl⟩
  subst hw9
  replace f9 := f9
  replace c0 := f9.cellN c0
  replace c1 := f9.cellN c1
  replace c2 := f9.cellN c2
  replace o0 := f9.cellN o0
  replace o1 := f9.cellN o1
  replace o2 := f9.cellN o2
  replace e0 := f9.cellN e0
  replace e1 := f9.cellN e1
  replace e2 := f9.cellN e2
  replace f9 := f7.same f9
  go_upto_region 12 with (go_at_call 7; refine (kDa _ f9).mono ?_; rintro e w10 ⟨rfl, f10⟩)
  replace c0 := f10.cellN c0
  replace c1 := f10.cellN c1
  replace c2 := f10.cellN c2
  replace o0 := f10.cellN o0
  replace o1 := f10.cellN o1
  replace o2 := f10.cellN o2
  replace e0 := f10.cellN e0
  replace e1 := f10.cellN e1
  replace e2 := f10.cellN e2
  replace f10 := f9.same f10
  obtain ⟨w11, hw11⟩ : ∃ w11, w11 = w10 := ⟨_, rfl⟩
  subst hw11
  have hL3H : Hidden ((l1.length + l2.length) * 16 ≤ 140737488355328) := hL3
  have hL1H : Hidden (∀ x ∈ l1 ++ l2, x ∈ L) := hL1
  have hL2H : Hidden (L.length ≤ l1.length + l2.length) := hL2
  clear hL1 hL2 hL3
  go_upto_region 13 with (go_at_call 8; refine (kUa _ f10).mono ?_; rintro e w12 ⟨vu, rfl, tu, f12⟩)
  replace c0 := f12.cellN c0
  replace c1 := f12.cellN c1
  replace c2 := f12.cellN c2
  replace o0 := f12.cellN o0
  replace o1 := f12.cellN o1
  replace o2 := f12.cellN o2
  replace e0 := f12.cellN e0
  replace e1 := f12.cellN e1
  replace e2 := f12.cellN e2
  have tuH0 : Hidden (U.To w12 w11.heap.size vu L) := tu
  replace f12 := f10.same f12
  obtain ⟨au, cu, hvu, hcu1, hcu2⟩ := tu.shape
  subst hvu
  have tuH : Hidden (U.To w12 w11.heap.size (.slice au L.length cu) L) := tuH0
  clear tu tuH0
  go_cut [9] (fun bv wx => ∃ ab cb, bv = .slice ab (l1.length + l2.length) cb ∧ U.Tl wx (.slice ab (l1.length + l2.length) cb) (l1 ++ l2) ∧ U.Tl wx (.slice au L.length cu) L ∧ Fr (fun _ => False) V6 wx)
  case first =>
    clear hL1H hL2H
    go_region_held3 (fun w' => w'.cell? ⟨w.heap.size, 0, none⟩ = some (ct name) ∧ w'.cell? ⟨w.heap.size, 1, none⟩ = some (.slice ao imports.length cap) ∧ w'.cell? ⟨w.heap.size, 2, none⟩ = some (.slice none 0 0) ∧ w'.cell? ⟨V0.heap.size + 1, 0, none⟩ = some (ct name) ∧ w'.cell? ⟨V0.heap.size + 1, 1, none⟩ = some (.slice none 0 0) ∧ w'.cell? ⟨V0.heap.size + 1, 2, none⟩ = some (.slice (some ⟨V0.heap.size, 0, none⟩) 1 1)) (first | (refine ⟨by with_reducible assumption, by with_reducible assumption, by with_reducible assumption, by with_reducible assumption, by with_reducible assumption, by with_reducible assumption⟩) | (refine ⟨?_, ?_, ?_, ?_, ?_, ?_⟩; (focus (refine Fr.cellN (w := w12) ?_ c0; (repeat (first | (with_reducible assumption) | (with_reducible exact Fr.refl _ _) | (with_reducible refine Fr.same ?_ (Fr.alloc _ _ _)) | (with_reducible refine Fr.same ?_ (Fr.drew _ _)))); done)); (focus (refine Fr.cellN (w := w12) ?_ c1; (repeat (first | (with_reducible assumption) | (with_reducible exact Fr.refl _ _) | (with_reducible refine Fr.same ?_ (Fr.alloc _ _ _)) | (with_reducible refine Fr.same ?_ (Fr.drew _ _)))); done)); (focus (refine Fr.cellN (w := w12) ?_ c2; (repeat (first | (with_reducible assumption) | (with_reducible exact Fr.refl _ _) | (with_reducible refine Fr.same ?_ (Fr.alloc _ _ _)) | (with_reducible refine Fr.same ?_ (Fr.drew _ _)))); done)); (focus (refine Fr.cellN (w := w12) ?_ o0; (repeat (first | (with_reducible assumption) | (with_reducible exact Fr.refl _ _) | (with_reducible refine Fr.same ?_ (Fr.alloc _ _ _)) | (with_reducible refine Fr.same ?_ (Fr.drew _ _)))); done)); (focus (refine Fr.cellN (w := w12) ?_ o1; (repeat (first | (with_reducible assumption) | (with_reducible exact Fr.refl _ _) | (with_reducible refine Fr.same ?_ (Fr.alloc _ _ _)) | (with_reducible refine Fr.same ?_ (Fr.drew _ _)))); done)); (focus (refine Fr.cellN (w := w12) ?_ o2; (repeat (first | (with_reducible assumption) | (with_reducible exact Fr.refl _ _) | (with_reducible refine Fr.same ?_ (Fr.alloc _ _ _)) | (with_reducible refine Fr.same ?_ (Fr.drew _ _)))); done)))) (first
      | (go_at_call 8; with_reducible (refine Calls.mono (kUm _ ?_) ?_); (focus (repeat (first | (with_reducible assumption) | (with_reducible exact Fr.refl _ _) | (with_reducible refine Fr.same ?_ (Fr.alloc _ _ _)) | (with_reducible refine Fr.same ?_ (Fr.drew _ _))))); rintro e wa ⟨v1, rfl, t1, fa⟩; have ga : Fr (fun _ => False) w12 wa := (by refine Fr.same ?_ fa; (repeat (first | (with_reducible assumption) | (with_reducible exact Fr.refl _ _) | (with_reducible refine Fr.same ?_ (Fr.alloc _ _ _)) | (with_reducible refine Fr.same ?_ (Fr.drew _ _))))); have ga2 := f12.same ga; have t1b : U.To wa w12.heap.size v1 l1 := t1.low (by refine Fr.size (S := fun _ => False) ?_; (repeat (first | (with_reducible assumption) | (with_reducible exact Fr.refl _ _) | (with_reducible refine Fr.same ?_ (Fr.alloc _ _ _)) | (with_reducible refine Fr.same ?_ (Fr.drew _ _))))))
      | (go_at_call 8; with_reducible (refine Calls.mono (kUo _ ?_) ?_); (focus (repeat (first | (with_reducible assumption) | (with_reducible exact Fr.refl _ _) | (with_reducible refine Fr.same ?_ (Fr.alloc _ _ _)) | (with_reducible refine Fr.same ?_ (Fr.drew _ _))))); rintro e wb ⟨v2, rfl, t2, fb⟩; have gb : Fr (fun _ => False) w12 wb := (by refine Fr.same ?_ fb; (repeat (first | (with_reducible assumption) | (with_reducible exact Fr.refl _ _) | (with_reducible refine Fr.same ?_ (Fr.alloc _ _ _)) | (with_reducible refine Fr.same ?_ (Fr.drew _ _))))); have gb2 := f12.same gb)
      | (refine U.step_app rfl _ _ rfl w12.heap.size v1 v2 l1 l2 rfl ?_ rfl ?_ ?_ ?_ ?_; (focus (first | exact t1b | exact t1b.later (fr_u fb))); (focus (first | exact t2.tn.tl | exact t2.tn.tl.later (fr_u fa))); (focus (refine Fr.size (S := fun _ => False) ?_; (repeat (first | (with_reducible assumption) | (with_reducible exact Fr.refl _ _) | (with_reducible refine Fr.same ?_ (Fr.alloc _ _ _)) | (with_reducible refine Fr.same ?_ (Fr.drew _ _)))))); (focus exact hL3H); intro v9 w13 t9 f13; have c0q := (u_fr f13).cell (Fr.cellN (w := w12) (by (repeat (first | (with_reducible assumption) | (with_reducible exact Fr.refl _ _) | (with_reducible refine Fr.same ?_ (Fr.alloc _ _ _)) | (with_reducible refine Fr.same ?_ (Fr.drew _ _)))); done) c0) (fun e => by have := (t1b.own _ e).1; have := World.block_lt_of_cell? w12 _ c0; simp only at *; omega); have c1q := (u_fr f13).cell (Fr.cellN (w := w12) (by (repeat (first | (with_reducible assumption) | (with_reducible exact Fr.refl _ _) | (with_reducible refine Fr.same ?_ (Fr.alloc _ _ _)) | (with_reducible refine Fr.same ?_ (Fr.drew _ _)))); done) c1) (fun e => by have := (t1b.own _ e).1; have := World.block_lt_of_cell? w12 _ c1; simp only at *; omega); have c2q := (u_fr f13).cell (Fr.cellN (w := w12) (by (repeat (first | (with_reducible assumption) | (with_reducible exact Fr.refl _ _) | (with_reducible refine Fr.same ?_ (Fr.alloc _ _ _)) | (with_reducible refine Fr.same ?_ (Fr.drew _ _)))); done) c2) (fun e => by have := (t1b.own _ e).1; have := World.block_lt_of_cell? w12 _ c2; simp only at *; omega); have o0q := (u_fr f13).cell (Fr.cellN (w := w12) (by (repeat (first | (with_reducible assumption) | (with_reducible exact Fr.refl _ _) | (with_reducible refine Fr.same ?_ (Fr.alloc _ _ _)) | (with_reducible refine Fr.same ?_ (Fr.drew _ _)))); done) o0) (fun e => by have := (t1b.own _ e).1; have := World.block_lt_of_cell? w12 _ o0; simp only at *; omega); have o1q := (u_fr f13).cell (Fr.cellN (w := w12) (by (repeat (first | (with_reducible assumption) | (with_reducible exact Fr.refl _ _) | (with_reducible refine Fr.same ?_ (Fr.alloc _ _ _)) | (with_reducible refine Fr.same ?_ (Fr.drew _ _)))); done) o1) (fun e => by have := (t1b.own _ e).1; have := World.block_lt_of_cell? w12 _ o1; simp only at *; omega); have o2q := (u_fr f13).cell (Fr.cellN (w := w12) (by (repeat (first | (with_reducible assumption) | (with_reducible exact Fr.refl _ _) | (with_reducible refine Fr.same ?_ (Fr.alloc _ _ _)) | (with_reducible refine Fr.same ?_ (Fr.drew _ _)))); done) o2) (fun e => by have := (t1b.own _ e).1; have := World.block_lt_of_cell? w12 _ o2; simp only at *; omega); have tu3 : U.To w13 w11.heap.size (.slice au L.length cu) L := (U.To.keep (U.To.later (show U.To w12 w11.heap.size (.slice au L.length cu) L from tuH) (fr_u (by (repeat (first | (with_reducible assumption) | (with_reducible exact Fr.refl _ _) | (with_reducible refine Fr.same ?_ (Fr.alloc _ _ _)) | (with_reducible refine Fr.same ?_ (Fr.drew _ _)))); done))) f13 (fun k e1 e2 => by have := ((show U.To w12 w11.heap.size (.slice au L.length cu) L from tuH).own _ e1).2; have := (t1b.own _ e2).1; omega)); have g13 : Fr (fun _ => False) V6 w13 := (by refine Fr.over (T := fun k => v1.ownBlock = some k) ?_ (u_fr f13) ?_; (focus (repeat (first | (with_reducible assumption) | (with_reducible exact Fr.refl _ _) | (with_reducible refine Fr.same ?_ (Fr.alloc _ _ _)) | (with_reducible refine Fr.same ?_ (Fr.drew _ _))))); (focus (intro k e; have := (t1b.own _ e).1; have := f12.size; omega))))
      )
    all_goals go_wp2_with fail
    all_goals go_meet
    all_goals
      obtain ⟨ab, cb, hv9, _, _⟩ := t9.shape
      rw [List.length_append] at hv9
      subst hv9
      exact ⟨ab, cb, rfl, t9.tn.tl, tu3.tn.tl, g13⟩
  case rest =>
  obtain ⟨ab, cb, rfl, hTb, hTu, f14⟩ := hcut
  obtain ⟨w14, hw14⟩ : ∃ w14, w14 = wc := ⟨_, rfl⟩
  subst hw14
  obtain ⟨ab', cb', eb, hb1, hb2, _, hb4⟩ := hTb
  rw [List.length_append] at eb hb1
  cases eb
  obtain ⟨au', cu', eu, hu1, hu2, _, hu4⟩ := hTu
  cases eu
  have hb4H : Hidden (l1 ++ l2 = [] ∨ ∃ b off, ab = some ⟨b, off, none⟩ ∧ ∀ (i : Nat) (x : Bs), (l1 ++ l2)[i]? = some x → w14.cell? ⟨b, off + i, none⟩ = some (ct x)) := hb4
  have hu4H : Hidden (L = [] ∨ ∃ b off, au = some ⟨b, off, none⟩ ∧ ∀ (i : Nat) (x : Bs), L[i]? = some x → w14.cell? ⟨b, off + i, none⟩ = some (ct x)) := hu4
  obtain ⟨n, hn⟩ : ∃ n, l1.length + l2.length = n := ⟨_, rfl⟩
  rw [hn] at hb1 ⊢
  have hnH : Hidden ((l1 ++ l2).length = n) := by rw [List.length_append, hn]; rfl
  have hLn : Hidden (L.length ≤ n) := by have : L.length ≤ l1.length + l2.length := hL2H; show _ ≤ _; omega
  have hn9 : n ≤ 9223372036854775807 := by omega
  have hL9 : L.length ≤ 9223372036854775807 := by omega
  have f14H : Hidden (Fr (fun _ => False) V6 w14) := f14
  clear hb4 hu4 hn f14 f12 f10 f9 f7 f6 f5 kNm kNo kNa kDm kDo kDa kUm kUo kUa c0 c1 c2 o0 o1 o2 e0 e1 e2 d0 d1 d2 d3 d4 d5 d6 tuH hL3H hL2H
  go_wp2_with fail
  go_loopg [10] n (fun gg iv wr => ∃ i : Nat, iv = ci (i : Int) ∧ i ≤ n ∧ gg = n - i ∧ Fr (fun _ => False) w14 wr)
  case atStart => exact ⟨0, rfl, by omega, rfl, Fr.refl _ _⟩
  case round =>
    obtain ⟨i, rfl, hi, hgk, hfr⟩ := hrel
    have hgkH : Hidden (gk = n - i) := hgk
    clear hgk
    by_cases hin : i < n
    · obtain ⟨x, hx⟩ : ∃ x, (l1 ++ l2)[i]? = some x := ⟨(l1 ++ l2)[i]'(by have : (l1 ++ l2).length = n := hnH; omega), List.getElem?_eq_getElem _⟩
      have hxL : Hidden (x ∈ L) := (show ∀ x ∈ l1 ++ l2, x ∈ L from hL1H) x (List.mem_of_getElem? hx)
      rcases (show l1 ++ l2 = [] ∨ _ from hb4H) with h0 | ⟨bb, ob, rfl, hcb⟩
      · rw [h0] at hx; simp at hx
      have yb0 : Hidden (w14.cell? ⟨bb, ob + i, none⟩ = some (ct x)) := hcb i x hx
      clear hx hcb
      obtain ⟨W, eW⟩ : ∃ W, W = wr := ⟨_, rfl⟩
      subst eW
      obtain ⟨gk0, egk⟩ : ∃ g0, g0 = gk := ⟨_, rfl⟩
      subst egk
      have hfrH : Hidden (Fr (fun _ => False) w14 W) := hfr
      clear hfr
      go_wp2_with fail
      go_loopg [11, 12] L.length (fun gg fv kv wr => ∃ k : Nat, kv = ci (k : Int) ∧ fv = .bool (decide (x ∈ L.take k)) ∧ k ≤ L.length ∧ gg = L.length - k ∧ Fr (fun _ => False) W wr)
      case atStart => exact ⟨0, rfl, by simp, by omega, rfl, Fr.refl _ _⟩
      case round =>
        obtain ⟨k, rfl, hfv, hk, hgk2, hfr2⟩ := hrel
        have hgk2H : Hidden (gk = L.length - k) := hgk2
        clear hgk2
        by_cases hkl : k < L.length
        · obtain ⟨y, hy⟩ : ∃ y, L[k]? = some y := ⟨L[k], List.getElem?_eq_getElem hkl⟩
          rcases (show L = [] ∨ _ from hu4H) with h0 | ⟨bu, ou, rfl, hcu⟩
          · rw [h0] at hkl; simp at hkl
          have yu : wr.cell? ⟨bu, ou + k, none⟩ = some (ct y) := hfr2.cellN ((show Fr (fun _ => False) w14 W from hfrH).cellN (hcu k y hy))
          have yb : wr.cell? ⟨bb, ob + i, none⟩ = some (ct x) := hfr2.cellN ((show Fr (fun _ => False) w14 W from hfrH).cellN yb0)
          have htk : decide (x ∈ L.take (k + 1)) = (decide (x ∈ L.take k) || (y == x)) := by
            rw [List.take_add_one, hy]
            simp only [Option.toList_some, List.mem_append, List.mem_singleton, Bool.decide_or]
            congr 1
            by_cases hxy : x = y
            · simp [hxy]
            · simp [hxy, Ne.symm hxy]
          have hfr2H : Hidden (Fr (fun _ => False) W wr) := hfr2
          clear hcu hy hfr2
          have htkH : Hidden (decide (x ∈ L.take (k + 1)) = (decide (x ∈ L.take k) || (y == x))) := htk
          clear htk
          generalize decide (x ∈ L.take k) = fo at hfv htkH
          subst hfv
          cases fo with
          | true =>
            go_wp2_with fail
            refine wp_region_grow (by kernel_rfl) (by kernel_rfl) ?_
            (repeat (first | (refine grow_op (v := ?_) ?_ ?_ ?_; rotate_left; (focus (first | exact wanted_none rfl | (go_simp; done))); (focus (intro w' hw'; (go_simp; with_reducible rfl))); (intro a' ha; simp only [Act.put, List.setIfInBounds_toArray, List.set_cons_zero, List.set_cons_succ] at ha; subst ha)) | (refine grow_no ?_ ?_; (focus (go_simp; done)); (intro a' ha; simp only [Act.put, List.setIfInBounds_toArray, List.set_cons_zero, List.set_cons_succ] at ha; subst ha)))); refine grow_nil ?_; intro w1 k1
            go_wp2_with fail
            go_roundg (L.length - (k + 1))
            case measure => have : gk = L.length - k := hgk2H; omega
            case rel => exact ⟨k + 1, by go_num, by rw [show decide (x ∈ L.take (k + 1)) = _ from htkH]; rfl, by omega, rfl, (show Fr (fun _ => False) W wr from hfr2H).same k1⟩
          | false =>
            go_wp2_with fail
            refine wp_region_grow (by kernel_rfl) (by kernel_rfl) ?_
            (repeat (first | (refine grow_op (v := ?_) ?_ ?_ ?_; rotate_left; (focus (first | exact wanted_none rfl | (go_simp; done))); (focus (intro w' hw'; have yu := hw'.cellN yu; have yb := hw'.cellN yb; (go_simp; with_reducible rfl))); (intro a' ha; simp only [Act.put, List.setIfInBounds_toArray, List.set_cons_zero, List.set_cons_succ] at ha; subst ha)) | (refine grow_no ?_ ?_; (focus (go_simp; done)); (intro a' ha; simp only [Act.put, List.setIfInBounds_toArray, List.set_cons_zero, List.set_cons_succ] at ha; subst ha)))); refine grow_nil ?_; intro w1 k1
            go_wp2_with fail
            go_roundg (L.length - (k + 1))
            case measure => have : gk = L.length - k := hgk2H; omega
            case rel => exact ⟨k + 1, by go_num, by rw [show decide (x ∈ L.take (k + 1)) = _ from htkH]; simp, by omega, rfl, (show Fr (fun _ => False) W wr from hfr2H).same k1⟩
        · obtain rfl : k = L.length := by omega
          have hft : decide (x ∈ L.take L.length) = true := by rw [List.take_length]; exact decide_eq_true hxL
          rw [hft] at hfv
          subst hfv
          have hfr2H : Hidden (Fr (fun _ => False) W wr) := hfr2
          clear hft hfr2
          go_wp2_with fail
          go_roundg (n - (i + 1))
          case measure => have : gk0 = n - i := hgkH; omega
          case rel => exact ⟨i + 1, by go_num, by omega, rfl, (show Fr (fun _ => False) w14 W from hfrH).same hfr2H⟩
    · obtain rfl : i = n := by omega
      have q1 : (L.length : Int) ≤ (i : Int) := by have : L.length ≤ i := hLn; omega
      have hfrH : Hidden (Fr (fun _ => False) w14 wr) := hfr
      clear hfr
      go_wp2_with fail
      go_ret
      exact ⟨by simp [q1], ((show Fr (fun _ => False) w V6 from gxH).same f14H).same hfrH⟩
theorem parts_any (m : Mo) (d : De) (v u : Value) (w : World) (hm : MoI w m v) (hs : m.decls.length * 112 ≤ 140737488351232) (hn : ∀ ao cap cap', v = moV m ao cap none cap' → cap' = 0) (hd : DeV w d u) (ht : F.Tab w) (hnb : ndM (m.decls ++ [d]) ≤ 1099511627776) (hub : (usM (m.decls ++ [d])).length * 16 ≤ 140737488355328) :
    Calls Tryz.prog 3 #[v, u] w fun e w' => e = .returned (.bool true) ∧ Fr (fun _ => False) w w' := by
  have hm0 := hm
  obtain ⟨ao, cap, aod, capd, rfl, hi, hl⟩ := hm
  obtain ⟨pv, ev, bv, rfl, hd⟩ := hd
  have hd0 := hd
  obtain ⟨pa, pc, ea, ec, ba, bc, rfl, rfl, rfl, _⟩ := hd
  cases aod with
  | none =>
    obtain rfl := hn ao cap capd rfl
    have h0 : m.decls = [] := by
      have := hl.1
      exact List.eq_nil_of_length_eq_zero (by omega)
    obtain ⟨name, imports, decls⟩ := m
    simp only at h0
    subst h0
    exact parts_none name imports d ao cap pa pc ea ec ba bc w hm0 (by simp) hd0 ht hnb hub
  | some ad =>
    rcases hl.2.2 with h0 | ⟨b, off, e, hc⟩
    · refine parts_some m d ao cap ad capd pa pc ea ec ba bc w hm0 hs hd0 ht hnb hub [] (by rw [h0]; rfl) (fun u hu => by simp at hu) (fun j u hu => by simp at hu)
    · cases e
      obtain ⟨cs, h1, h2, h3⟩ := Rw.chunks_de w b m.decls off hc
      exact parts_some m d ao cap ⟨b, off, none⟩ capd pa pc ea ec ba bc w hm0 hs hd0 ht hnb hub cs h1 h3 (fun j u hu => by rw [Addr.add_lit]; exact h2 j u hu)
end Go.Proofs.YtddedomocnpdjaaGreatDoor
namespace Go.Proofs.YtddedomocnpdjaaGreatDoor.treeParts
open Go.RowKit Te
theorem walk (v : Value) (m : Mo) (u : Value) (d : De) (W : World) (hm : MoI W m v) (_om : OkM m) (hl : m.name.length + (m.imports.map fun p => p.length + 1).sum + (m.decls.map In.bkD).sum + 1 ≤ 1048576) (hn : ∀ ao cap cap', v = moV m ao cap none cap' → cap' = 0) (hd : DeV W d u) (_od : OkD d) (hl2 : In.bkD d ≤ 1048577) (ht : F.Tab W) :
    Calls Tryz.prog 3 #[v, u] W fun e w' => e = .returned (.bool true) ∧ Fr (fun _ => False) W w' := by
  have h1 := ndM_bk (m.decls ++ [d])
  have h2 := usM_len (m.decls ++ [d])
  have h3 := dl_len m.decls
  have h4 : ((m.decls ++ [d]).map In.bkD).sum = (m.decls.map In.bkD).sum + In.bkD d := by simp
  exact parts_any m d v u W hm (by omega) hn hd ht (by omega) (by omega)
end Go.Proofs.YtddedomocnpdjaaGreatDoor.treeParts
