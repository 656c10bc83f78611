/- The program's Copy (for TreeCopies). -/
import Derived.Test.YtncachlopnpcjaaGreatDoorTrCb
namespace Go.Proofs.YtncachlopnpcjaaGreatDoor.Sl
open Go.RowKit Te
set_option linter.unusedSimpArgs false
set_option linter.unusedVariables false

structure BdM (m : Mo) : Prop where
  i : m.imports.length * 16 ≤ 140737488351232
  d : m.decls.length * 112 ≤ 140737488351232
  all : ∀ d ∈ m.decls, BdD d
theorem ShM.wide {w : World} {lo hi lo' hi' : Nat} {m : Mo} {ao : Option Addr} {cap : Nat} {aod : Option Addr} {capd : Nat} (h : ShM w lo hi m ao cap aod capd) (h1 : lo' ≤ lo) (h2 : hi ≤ hi') : ShM w lo' hi' m ao cap aod capd := by
  obtain ⟨⟨a, b, c⟩, d, e, f⟩ := h
  refine ⟨⟨a, b, ?_⟩, d, e, ?_⟩
  · rcases c with c | ⟨g, rfl, c1⟩
    · exact Or.inl c
    · exact Or.inr ⟨g, rfl, c1.wide h1 h2⟩
  · rcases f with f | ⟨g, rfl, c1, c2⟩
    · exact Or.inl f
    · refine Or.inr ⟨g, rfl, c1.wide h1 h2, fun i x hx => ?_⟩
      obtain ⟨a1, k1, a2, k2, a3, k3, x1, x2, x3, y1, y2, y3⟩ := c2 i x hx
      exact ⟨a1, k1, a2, k2, a3, k3, x1, x2, x3, y1.wide h1 h2, y2.wide h1 h2, y3.wide h1 h2⟩
theorem info_tx : (Tryz.prog.info? 9).map (fun i => (i.zero, i.size, i.bytes)) = some (some (.string ⟨#[]⟩), 1, 16) := by kernel_rfl
theorem post1m {fn : Func} {R : Ending → World → Prop} {a : Act} {w : World} {p : Tmp} (h : fn.results = #[.cell p 25]) (hd : a.defers = []) (g : Nat) (x0 x1 x2 : Value)
    (hp : a.tmps.getD p undef = .pointer (some ⟨g, 0, none⟩)) (hg : w.heap[g]? = some (.cells #[x0, x1, x2] 25 (0, 0)))
    (hR : R (.returned (.agg #[x0, x1, x2])) w) : bodyPost Tryz.prog fn R .ret a w := by
  refine ⟨hd, _, ?_, hR⟩
  exact results_cell_row h a.tmps w g _ _ _ _ hp hg Tryz.underlying25 rfl (by kernel_rfl)
theorem set3' {w : World} {g : Nat} {a b c : Value} {t : TypeId} (hg : w.heap[g]? = some (.cells #[a, b, c] t (0, 0))) (v0 v1 v2 : Value) : (((w.setCell ⟨g, 0, none⟩ v0).setCell ⟨g, 1, none⟩ v1).setCell ⟨g, 2, none⟩ v2).heap[g]? = some (.cells #[v0, v1, v2] t (0, 0)) := by
  have h1 : (w.setCell ⟨g, 0, none⟩ v0).heap[g]? = some (.cells #[v0, b, c] t (0, 0)) := heap_setCell_same _ g 0 _ t v0 hg
  have h2 : ((w.setCell ⟨g, 0, none⟩ v0).setCell ⟨g, 1, none⟩ v1).heap[g]? = some (.cells #[v0, v1, c] t (0, 0)) := heap_setCell_same _ g 1 _ t v1 h1
  exact heap_setCell_same _ g 2 _ t v2 h2
theorem fr3' (w : World) (g : Nat) (v0 v1 v2 : Value) : Fr (fun k => k = g) w (((w.setCell ⟨g, 0, none⟩ v0).setCell ⟨g, 1, none⟩ v1).setCell ⟨g, 2, none⟩ v2) := ((Fr.setCell w ⟨g, 0, none⟩ v0).same (Fr.setCell _ ⟨g, 1, none⟩ v1)).same (Fr.setCell _ ⟨g, 2, none⟩ v2)
theorem mo3 {w : World} {b : Nat} {x0 x1 x2 : Value} {t : TypeId} (hb : w.heap[b]? = some (.cells #[x0, x1, x2] t (0, 0))) : w.cell? ⟨b, 0, none⟩ = some x0 ∧ w.cell? ⟨b, 1, none⟩ = some x1 ∧ w.cell? ⟨b, 2, none⟩ = some x2 :=
  ⟨cell_of_row _ _ 0 _ _ _ hb, cell_of_row _ _ 1 _ _ _ hb, cell_of_row _ _ 2 _ _ _ hb⟩
theorem tx_one (l : List Bs) : ∀ u ∈ l.map ct, u.oneCell' = true := by
  intro u hu
  obtain ⟨x, _, rfl⟩ := List.mem_map.1 hu
  rfl
set_option maxRecDepth 20000 in
set_option maxHeartbeats 4000000 in
theorem copy_any (m : Mo) (v : Value) (w : World) (hm : MoI w m v) (hb : BdM m) :
    Calls Tryz.prog 5 #[v] w fun e w' => ∃ a1 c1 a2 c2, e = .returned (.agg #[ct m.name, .slice a1 m.imports.length c1, .slice a2 m.decls.length c2]) ∧ Within w.heap.size w'.heap.size w' (fun u => MoI u m (moV m a1 c1 a2 c2) ∧ ShM u w.heap.size w'.heap.size m a1 c1 a2 c2) ∧ Fr (fun _ => False) w w' := by
  obtain ⟨a1, c1, a2, c2, rfl, hi, hd⟩ := hm
  obtain ⟨name, imports, decls⟩ := m
  obtain ⟨bi, bd, ball⟩ := hb
  simp only at hi hd bi bd ball ⊢
  have hil : imports.length ≤ c1 ∧ c1 ≤ 9223372036854775807 := by have := hi.2.1; unfold maxLen at this; exact ⟨hi.1, by omega⟩
  obtain ⟨W0, hW0⟩ : ∃ W, W = (w.alloc (.cells #[ct name, .slice a1 imports.length c1, .slice a2 decls.length c2] 25 (0, 0))).alloc (.cells #[.string ⟨#[]⟩, .slice none 0 0, .slice none 0 0] 25 (0, 0)) := ⟨_, rfl⟩
  have f0 : Fr (fun _ => False) w W0 := by rw [hW0]; exact (Fr.alloc _ _ _).same (Fr.alloc _ _ _)
  have hA : W0.heap[w.heap.size]? = some (.cells #[ct name, .slice a1 imports.length c1, .slice a2 decls.length c2] 25 (0, 0)) := by rw [hW0]; exact (alloc_old _ _ _ (by simp)).trans (alloc_new _ _)
  have hB : Hidden (W0.heap[w.heap.size + 1]? = some (.cells #[.string ⟨#[]⟩, .slice none 0 0, .slice none 0 0] 25 (0, 0))) := by rw [hW0]; exact aat _ _ _ (by simp)
  have hsz : W0.heap.size = w.heap.size + 2 := by rw [hW0]; simp
  have hszH : Hidden (W0.heap.size = w.heap.size + 2) := hsz
  have hW0H : Hidden (W0 = _) := hW0
  have f0H : Hidden (Fr (fun _ => False) w W0) := f0
  have hAH : Hidden (W0.heap[w.heap.size]? = _) := hA
  have hsrcH : Hidden (imports.length = 0 ∨ ∃ ad, a1 = some ad ∧ ∀ (j : Nat) (u : Value), (imports.map ct)[j]? = some u → W0.cell? (ad.add j) = some u) := sv_src (hi.keep f0)
  have biH : Hidden (imports.length * 16 ≤ 140737488351232) := bi
  have k2 : ∀ u, Fr (fun _ => False) w u → Calls Tryz.prog 12 #[.slice a2 decls.length c2, .func (.func 13) #[] #[]] u fun e_ w' => ∃ v', e_ = .returned v' ∧ Rw.Row (RE KD u.heap.size w' v') 47 7 w' u.heap.size v' decls ∧ Fr (fun _ => False) u w' := fun u f => copyDs_any decls a2 c2 u (hd.keep f) bd ball
  have x1 : W0.cell? ⟨w.heap.size, 1, none⟩ = some (.slice a1 imports.length c1) := cell_of_row W0 _ 1 _ _ _ hA
  clear hW0 hA f0 hi hd bi bd ball hsz
  go_enter Tryz.func5, Tryz.ntmps5
  go_upto_region 1 with fail
  rw [← (show W0 = _ from hW0H)]
  go_upto_region 2 with (at_builtin; refine wpl_clone rfl _ _ 22 9 _ 1 16 Tryz.underlying22 info_tx rfl (by decide) rfl rfl a1 imports.length c1 (imports.map ct) rfl (by simp) hsrcH (tx_one imports) ?_ ?_ ?_; (focus (have : imports.length * 16 ≤ 140737488351232 := biH; unfold maxLen; omega)); (focus (have : imports.length * 16 ≤ 140737488351232 := biH; omega)); intro v' w1 hrow f1; obtain ⟨a1', c1', hv', hW1⟩ := sv_row hrow; subst hv'; have hA1 : w1.heap[w.heap.size]? = some (.cells #[ct name, .slice a1 imports.length c1, .slice a2 decls.length c2] 25 (0, 0)) := f1.heap hAH (fun f => f); have y1 : w1.cell? ⟨w.heap.size, 1, none⟩ = some (.slice a1 imports.length c1) := cell_of_row w1 _ 1 _ _ _ hA1; have z1 := frozen_r hA1 1; clear hrow)
  have hs : W0.heap.size = w.heap.size + 2 := hszH
  obtain ⟨w2, hw2⟩ : ∃ w2, w2 = w1.setCell ⟨w.heap.size, 1, none⟩ (.slice a1' imports.length c1') := ⟨_, rfl⟩
  have f2 : Fr (fun b => b = w.heap.size) w1 w2 := by rw [hw2]; exact Fr.setCell w1 ⟨w.heap.size, 1, none⟩ _
  have hA2 : w2.heap[w.heap.size]? = some (.cells #[ct name, .slice a1' imports.length c1', .slice a2 decls.length c2] 25 (0, 0)) := by rw [hw2]; exact heap_setCell_same _ _ 1 _ _ _ hA1
  have z12 : w2.heap.size = w1.heap.size := by rw [hw2]; simp
  rw [← hw2]
  have g2 : Fr (fun _ => False) w w2 := ((show Fr (fun _ => False) w W0 from f0H).same f1).over f2 (fun b e => by omega)
  have kk2 := k2 w2 g2
  have x2 : w2.cell? ⟨w.heap.size, 2, none⟩ = some (.slice a2 decls.length c2) := cell_of_row w2 _ 2 _ _ _ hA2
  have g2H : Hidden (Fr (fun _ => False) w w2) := g2
  have hA2H : Hidden (w2.heap[w.heap.size]? = _) := hA2
  have f2H : Hidden (Fr (fun b => b = w.heap.size) w1 w2) := f2
  have f1H : Hidden (Fr (fun _ => False) W0 w1) := f1
  have hW1H : Hidden (Within W0.heap.size w1.heap.size w1 (fun u => SvL u a1' c1' imports ∧ (imports.length ≤ c1' ∧ c1' ≤ maxLen ∧ (imports = [] ∨ ∃ b, a1' = some ⟨b, 0, none⟩ ∧ RwB u W0.heap.size w1.heap.size b 9 imports.length)))) := hW1
  have z12H : Hidden (w2.heap.size = w1.heap.size) := z12
  clear hw2 hA2 hA1 y1 z1 x1 k2 f2 g2 f1 hW1 hs z12 hsrcH biH
  go_upto_region 3 with (go_at_call 12; refine kk2.mono ?_; rintro e_ w3 ⟨v', rfl, hrow, f3⟩; obtain ⟨a2', c2', hv', hW3⟩ := row_de hrow; subst hv'; have hA3 : w3.heap[w.heap.size]? = some (.cells #[ct name, .slice a1' imports.length c1', .slice a2 decls.length c2] 25 (0, 0)) := f3.heap hA2H (fun f => f); have y2 : w3.cell? ⟨w.heap.size, 2, none⟩ = some (.slice a2 decls.length c2) := cell_of_row w3 _ 2 _ _ _ hA3; have z2 := frozen_r hA3 2; clear hrow)
  have hs : W0.heap.size = w.heap.size + 2 := hszH
  have f1 : Fr (fun _ => False) W0 w1 := f1H
  have f2 : Fr (fun b => b = w.heap.size) w1 w2 := f2H
  have s1 := f1.size
  have s3 := f3.size
  have z12 : w2.heap.size = w1.heap.size := z12H
  obtain ⟨w4, hw4⟩ : ∃ w4, w4 = w3.setCell ⟨w.heap.size, 2, none⟩ (.slice a2' decls.length c2') := ⟨_, rfl⟩
  have f4 : Fr (fun b => b = w.heap.size) w3 w4 := by rw [hw4]; exact Fr.setCell w3 ⟨w.heap.size, 2, none⟩ _
  have hA4 : w4.heap[w.heap.size]? = some (.cells #[ct name, .slice a1' imports.length c1', .slice a2' decls.length c2'] 25 (0, 0)) := by rw [hw4]; exact heap_setCell_same _ _ 2 _ _ _ hA3
  have z34 : w4.heap.size = w3.heap.size := by rw [hw4]; simp
  have hB4 : w4.heap[w.heap.size + 1]? = some (.cells #[.string ⟨#[]⟩, .slice none 0 0, .slice none 0 0] 25 (0, 0)) := f4.heap (f3.heap (f2.heap (f1.heap hB (fun f => f)) (by omega)) (fun f => f)) (by omega)
  rw [← hw4]
  obtain ⟨p0, p1, p2⟩ := mo3 hA4
  obtain ⟨r0, r1, r2⟩ := mo3 hB4
  have i0 := frozen_r hB4 0
  have i1 := frozen_r hB4 1
  have i2 := frozen_r hB4 2
  obtain ⟨wE, hwE⟩ : ∃ wE, wE = ((w4.setCell ⟨w.heap.size + 1, 0, none⟩ (ct name)).setCell ⟨w.heap.size + 1, 1, none⟩ (.slice a1' imports.length c1')).setCell ⟨w.heap.size + 1, 2, none⟩ (.slice a2' decls.length c2') := ⟨_, rfl⟩
  have f7 : Fr (fun b => b = w.heap.size + 1) w4 wE := by rw [hwE]; exact fr3' _ _ _ _ _
  have hBE : wE.heap[w.heap.size + 1]? = some (.cells #[ct name, .slice a1' imports.length c1', .slice a2' decls.length c2'] 25 (0, 0)) := by rw [hwE]; exact set3' hB4 _ _ _
  have s7 := f7.size
  have hR2 : Hidden (Within w.heap.size wE.heap.size wE (fun u => MoI u ⟨name, imports, decls⟩ (moV ⟨name, imports, decls⟩ a1' c1' a2' c2') ∧ ShM u w.heap.size wE.heap.size ⟨name, imports, decls⟩ a1' c1' a2' c2') ∧ Fr (fun _ => False) w wE) := by
    refine ⟨fun u hu => ?_, (((show Fr (fun _ => False) w w2 from g2H).same f3).over f4 (fun b e => by omega)).over f7 (fun b e => by omega)⟩
    have q5 : ∀ g, W0.heap.size ≤ g → g < w3.heap.size → u.heap[g]? = w3.heap[g]? := fun g g1 g2 => (hu g (by omega) (by omega)).trans ((f7.block g (by omega) (by omega)).trans (f4.block g g2 (by omega)))
    have q3 : ∀ g, W0.heap.size ≤ g → g < w1.heap.size → u.heap[g]? = w1.heap[g]? := fun g g1 g2 => (q5 g g1 (by omega)).trans ((f3.block g (by omega) (fun f => f)).trans (f2.block g g2 (by omega)))
    have e1 := (show Within W0.heap.size w1.heap.size w1 _ from hW1H) u (fun g g1 g2 => q3 g g1 g2)
    have e3 := hW3 u (fun g g1 g2 => q5 g (by omega) g2)
    refine ⟨⟨a1', c1', a2', c2', rfl, e1.1, e3.1⟩, ?_, ?_⟩
    · obtain ⟨k1, k2, k3⟩ := e1.2
      refine ⟨k1, k2, ?_⟩
      rcases k3 with k3 | ⟨g, rfl, k4⟩
      · exact Or.inl k3
      · exact Or.inr ⟨g, rfl, k4.wide (by omega) (by omega)⟩
    · obtain ⟨k1, k2, k3⟩ := e3.2
      refine ⟨k1, k2, ?_⟩
      rcases k3 with k3 | ⟨g, rfl, k4, k5⟩
      · exact Or.inl k3
      · refine Or.inr ⟨g, rfl, k4.wide (by omega) (by omega), fun i x hx => ?_⟩
        obtain ⟨b1, q1, b2, q2, b3, q3, x1, x2, x3, y1, y2, y3⟩ := k5 i x hx
        exact ⟨b1, q1, b2, q2, b3, q3, x1, x2, x3, y1.wide (by omega) (by omega), y2.wide (by omega) (by omega), y3.wide (by omega) (by omega)⟩
  have hwEH : Hidden (wE = _) := hwE
  have hBEH : Hidden (wE.heap[w.heap.size + 1]? = _) := hBE
  clear hw4 f1 f2 f3 f4 f7 hA4 hB4 hA3 hwE hBE hW3 y2 z2 x2 kk2 s1 s3 s7 z12 z34 hs
  go_wp2_with fail
  rw [← (show wE = _ from hwEH)]
  exact post1m rfl rfl _ _ _ _ rfl hBEH ⟨a1', c1', a2', c2', rfl, (show _ ∧ _ from hR2).1, (show _ ∧ _ from hR2).2⟩
end Go.Proofs.YtncachlopnpcjaaGreatDoor.Sl
