/- note, at a place that was not come to. -/
import Derived.Test.YtnmcehpdiopaiaaGreatDoorCdW
namespace Go.Proofs.YtnmcehpdiopaiaaGreatDoor.Cd
open Go.RowKit Ty
set_option linter.unusedSimpArgs false
set_option linter.unusedVariables false

theorem stC_set (L : Cs) (k : Nat) (g : Bool) (s : Sp) : (stC L).toArray.setIfInBounds k (.int .u8 (stN (some (g, s)))) = (stC (L.set k (some (g, s)))).toArray := by
  simp [stC, List.map_set]
theorem ahC_set : ∀ (L : Cs) (k : Nat) (c : Option (Bool × Sp)) (x y z : Value), shC (shO c) = [x, y, z] → k < L.length → (((ahC L).set (k * 3) x).set (k * 3 + 1) y).set (k * 3 + 2) z = ahC (L.set k c)
  | [], k, c, x, y, z, _, h => by simp at h
  | d :: r, 0, c, x, y, z, e, _ => by
    simp only [ahC, List.flatMap_cons, List.set_cons_zero, e]
    simp [shC]
  | d :: r, k + 1, c, x, y, z, e, h => by
    have ih := ahC_set r k c x y z e (by simpa using h)
    have e3 : (k + 1) * 3 = k * 3 + 1 + 1 + 1 := by omega
    simp only [ahC, List.flatMap_cons, List.set_cons_succ] at ih ⊢
    rw [← ih, e3]
    simp [shC]
theorem ahA_set (L : Cs) (k : Nat) (c : Option (Bool × Sp)) (x y z : Value) (e : shC (shO c) = [x, y, z]) (h : k < L.length) : (((ahC L).toArray.setIfInBounds (k * 3) x).setIfInBounds (k * 3 + 1) y).setIfInBounds (k * 3 + 2) z = (ahC (L.set k c)).toArray := by
  rw [← ahC_set L k c x y z e h]
  simp
theorem note_put {V : World} {gs ga k : Nat} {L : Cs} {s : Sp} {t1 t2 : TypeId} (hs : V.heap[gs]? = some (.cells (stC L).toArray t1 (0, 0))) (ha : V.heap[ga]? = some (.cells (ahC L).toArray t2 (0, 0))) (hne : gs ≠ ga) (hk : k < L.length) :
    ∃ V2, V2 = ((((V.setCell ⟨gs, k, none⟩ (.int .u8 1)).setCell ⟨ga, k * 3, none⟩ (ct (encSt s.st))).setCell ⟨ga, k * 3 + 1, none⟩ (ct (encTr s.tr))).setCell ⟨ga, k * 3 + 2, none⟩ (ci (s.tr.length : Int))).drew ∧
      V2.heap[gs]? = some (.cells (stC (L.set k (some (false, s)))).toArray t1 (0, 0)) ∧ V2.heap[ga]? = some (.cells (ahC (L.set k (some (false, s)))).toArray t2 (0, 0)) ∧ Fr (fun b => b = gs ∨ b = ga) V V2 := by
  have f0 := Fr.setCell V ⟨gs, k, none⟩ (.int .u8 1)
  have f1 := Fr.setCell (V.setCell ⟨gs, k, none⟩ (.int .u8 1)) ⟨ga, k * 3, none⟩ (ct (encSt s.st))
  have f2 := Fr.setCell ((V.setCell ⟨gs, k, none⟩ (.int .u8 1)).setCell ⟨ga, k * 3, none⟩ (ct (encSt s.st))) ⟨ga, k * 3 + 1, none⟩ (ct (encTr s.tr))
  have f3 := Fr.setCell (((V.setCell ⟨gs, k, none⟩ (.int .u8 1)).setCell ⟨ga, k * 3, none⟩ (ct (encSt s.st))).setCell ⟨ga, k * 3 + 1, none⟩ (ct (encTr s.tr))) ⟨ga, k * 3 + 2, none⟩ (ci (s.tr.length : Int))
  have f4 := (f1.same f2).same f3
  have h0 := heap_setCell_same V gs k _ t1 (.int .u8 1) hs
  have g0 := f0.heap ha (fun e => hne e.symm)
  have g1 := heap_setCell_same _ ga (k * 3) _ t2 (ct (encSt s.st)) g0
  have g2 := heap_setCell_same _ ga (k * 3 + 1) _ t2 (ct (encTr s.tr)) g1
  have g3 := heap_setCell_same _ ga (k * 3 + 2) _ t2 (ci (s.tr.length : Int)) g2
  refine ⟨_, rfl, ?_, ?_, ?_⟩
  · have := f4.heap h0 (fun e => hne e)
    rw [← stC_set L k false s]
    exact this
  · rw [← ahA_set L k (some (false, s)) _ _ _ rfl hk]
    exact g3
  · exact ((f0.mono (fun b _ e => Or.inl e)).same (f4.mono (fun b _ e => Or.inr e))).same (Fr.drew _ _)
theorem cell_other {w : World} {a b : Addr} {v u : Value} (h : w.cell? a = some u) (hn : a.block ≠ b.block) : (w.setCell b v).cell? a = some u := (Fr.setCell w b v).cell h hn
set_option maxRecDepth 20000 in
set_option maxHeartbeats 2000000 in
theorem note_new (q gs ga n k : Nat) (v0 v1 v2 v3 v4 v5 : Value) (L : Cs) (s : Sp) (w : World) (h : Wk w q gs ga n v0 v1 v2 v3 v4 v5 L) (hk : L[k]? = some none) (hn : n ≤ 1000000) :
    Calls Tryz.prog 39 #[.pointer (some ⟨q, 0, none⟩), .agg #[ci (k : Int), ct (encSt s.st), ct (encTr s.tr), ci (s.tr.length : Int)]] w fun e w' => e = .returned (.bool true) ∧ Wk w' q gs ga n v0 v1 v2 v3 v4 v5 (L.set k (some (false, s))) ∧ Fr (fun b => b = gs ∨ b = ga) w w' := by
  have hkn : k < n := by rw [← h.len]; exact (List.getElem?_eq_some_iff.1 hk).1
  have hH : Hidden (Wk w q gs ga n v0 v1 v2 v3 v4 v5 L) := h
  obtain ⟨_, _, _, _, _, _, c6, c7⟩ := box8 h.box
  have cs := st_at h.st hk
  obtain ⟨a0, a1, a2⟩ := ah_at h.ah hk
  have hqlt := lt_of_heap h.box
  have hslt := lt_of_heap h.st
  have halt := lt_of_heap h.ah
  have n1 := h.qs
  have n2 := h.qa
  have n3 := h.sa
  have n4 : w.heap.size ≠ gs := by omega
  have n5 : w.heap.size ≠ ga := by omega
  simp only [shO, stN] at a0 a1 a2 cs
  obtain ⟨W, hW⟩ : ∃ W, W = w.alloc (.cells #[ci (k : Int), ct (encSt s.st), ct (encTr s.tr), ci (s.tr.length : Int)] 103 (0, 0)) := ⟨_, rfl⟩
  have fW : Fr (fun _ => False) w W := by rw [hW]; exact Fr.alloc _ _ _
  obtain ⟨b0, b1, b2, b3⟩ := box4 (show W.heap[w.heap.size]? = some (.cells #[ci (k : Int), ct (encSt s.st), ct (encTr s.tr), ci (s.tr.length : Int)] 103 (0, 0)) by rw [hW]; exact alloc_new _ _)
  have fz := fun j => frozen_of_row (fW.heap h.st (fun f => f)) j
  have fy := fun j => frozen_of_row (fW.heap h.ah (fun f => f)) j
  replace c6 := fW.cellN c6
  replace c7 := fW.cellN c7
  replace cs := fW.cellN cs
  replace a0 := fW.cellN a0
  replace a1 := fW.cellN a1
  replace a2 := fW.cellN a2
  have z0 := fz k
  have y0 := fy (k * 3)
  have y1 := fy (k * 3 + 1)
  have y2 := fy (k * 3 + 2)
  have fWH : Hidden (Fr (fun _ => False) w W) := fW
  clear fW h fz fy hk hqlt hslt halt
  obtain ⟨x, hx⟩ : ∃ x, encSt s.st = x := ⟨_, rfl⟩
  obtain ⟨y, hy⟩ : ∃ y, encTr s.tr = y := ⟨_, rfl⟩
  obtain ⟨m, hm⟩ : ∃ m, (s.tr.length : Int) = m := ⟨_, rfl⟩
  rw [hx] at hW b1
  rw [hy] at hW b2
  rw [hm] at hW b3
  rw [hx, hy, hm]
  have hx : Hidden (encSt s.st = x) := hx
  have hy : Hidden (encTr s.tr = y) := hy
  have hm : Hidden ((s.tr.length : Int) = m) := hm
  go_enter Tryz.func39, Tryz.ntmps39
  go_upto_region 1 with fail
  rw [← hW]
  clear hW
  go_region_held3 (fun w' => w'.cell? ⟨q, 6, none⟩ = some (.slice (some ⟨gs, 0, none⟩) n n) ∧ w'.cell? ⟨w.heap.size, 0, none⟩ = some (ci (k : Int)) ∧ w'.cell? ⟨gs, k, none⟩ = some (.int .u8 0)) (first | (refine ⟨by with_reducible assumption, by with_reducible assumption, by with_reducible assumption⟩) | go_keep) (fail)
  go_upto_region 2 with fail
  have fd : Fr (fun _ => False) W W.drew := Fr.drew _ _
  replace c6 := fd.cellN c6
  replace c7 := fd.cellN c7
  replace cs := fd.cellN cs
  replace a0 := fd.cellN a0
  replace a1 := fd.cellN a1
  replace a2 := fd.cellN a2
  replace b0 := fd.cellN b0
  replace b1 := fd.cellN b1
  replace b2 := fd.cellN b2
  replace b3 := fd.cellN b3
  have z0 : W.drew.frozen? ⟨gs, k, none⟩ = false := z0
  have y0 : W.drew.frozen? ⟨ga, k * 3, none⟩ = false := y0
  have y1 : W.drew.frozen? ⟨ga, k * 3 + 1, none⟩ = false := y1
  have y2 : W.drew.frozen? ⟨ga, k * 3 + 2, none⟩ = false := y2
  have fWH2 : Hidden (Fr (fun _ => False) w W.drew) := (show Fr (fun _ => False) w W from fWH).same fd
  clear fd fWH
  generalize W.drew = V at *
  go_region_held3 (fun w' => w'.cell? ⟨q, 6, none⟩ = some (.slice (some ⟨gs, 0, none⟩) n n) ∧ w'.cell? ⟨q, 7, none⟩ = some (.slice (some ⟨ga, 0, none⟩) n n) ∧ w'.cell? ⟨w.heap.size, 0, none⟩ = some (ci (k : Int)) ∧ w'.cell? ⟨w.heap.size, 1, none⟩ = some (ct x) ∧ w'.cell? ⟨w.heap.size, 2, none⟩ = some (ct y) ∧ w'.cell? ⟨w.heap.size, 3, none⟩ = some (ci m)) (first | (refine ⟨by with_reducible assumption, by with_reducible assumption, by with_reducible assumption, by with_reducible assumption, by with_reducible assumption, by with_reducible assumption⟩) | (refine ⟨?_, ?_, ?_, ?_, ?_, ?_⟩ <;> (repeat (first | (with_reducible assumption) | (refine cell_other ?_ (by first | exact n1 | exact n2 | exact n4 | exact n5)) | (refine (Fr.drew (fun _ => False) _).cellN ?_)))) | go_keep) (fail)
  go_upto_region 3 with fail
  obtain ⟨V2, hV2, hs2, ha2, f2⟩ := note_put (s := s) ((show Fr (fun _ => False) w V from fWH2).heap (show Wk w q gs ga n v0 v1 v2 v3 v4 v5 L from hH).st (fun f => f)) ((show Fr (fun _ => False) w V from fWH2).heap (show Wk w q gs ga n v0 v1 v2 v3 v4 v5 L from hH).ah (fun f => f)) n3 (by rw [(show Wk w q gs ga n v0 v1 v2 v3 v4 v5 L from hH).len]; exact hkn)
  rw [show encSt s.st = x from hx, show encTr s.tr = y from hy, show (s.tr.length : Int) = m from hm] at hV2
  rw [← hV2]
  clear hV2
  have hq2 : V2.heap[q]? = _ := f2.heap ((show Fr (fun _ => False) w V from fWH2).heap (show Wk w q gs ga n v0 v1 v2 v3 v4 v5 L from hH).box (fun f => f)) (fun e => by rcases e with e | e; exact n1 e; exact n2 e)
  have no : ∀ b, b ≠ gs → b ≠ ga → ¬ (b = gs ∨ b = ga) := fun b h1 h2 e => by rcases e with e | e; exact h1 e; exact h2 e
  have d0 := f2.cell b0 (no _ n4 n5)
  have d1 := f2.cell b1 (no _ n4 n5)
  have d2 := f2.cell b2 (no _ n4 n5)
  have d3 := f2.cell b3 (no _ n4 n5)
  have d7 := f2.cell c7 (no _ n1 n2)
  obtain ⟨i0, i1, i2⟩ := ah_at ha2 (k := k) (c := some (false, s)) (List.getElem?_set_self (by rw [(show Wk w q gs ga n v0 v1 v2 v3 v4 v5 L from hH).len]; exact hkn))
  simp only [shO] at i0 i1 i2
  rw [show encSt s.st = x from hx] at i0
  rw [show encTr s.tr = y from hy] at i1
  rw [show (s.tr.length : Int) = m from hm] at i2
  have finH : Hidden (Wk V2 q gs ga n v0 v1 v2 v3 v4 v5 (L.set k (some (false, s))) ∧ Fr (fun b => b = gs ∨ b = ga) w V2) := ⟨⟨hq2, hs2, ha2, by rw [List.length_set]; exact (show Wk w q gs ga n v0 v1 v2 v3 v4 v5 L from hH).len, n1, n2, n3⟩, ((show Fr (fun _ => False) w V from fWH2).mono (fun _ _ f => f.elim)).same f2⟩
  clear hq2 hs2 ha2 f2 no b0 b1 b2 b3 c6 c7 cs a0 a1 a2 z0 y0 y1 y2 fWH2 hH hx hy hm
  go_region_held3 (fun w' => w'.cell? ⟨q, 7, none⟩ = some (.slice (some ⟨ga, 0, none⟩) n n) ∧ w'.cell? ⟨w.heap.size, 0, none⟩ = some (ci (k : Int)) ∧ w'.cell? ⟨w.heap.size, 1, none⟩ = some (ct x) ∧ w'.cell? ⟨w.heap.size, 2, none⟩ = some (ct y) ∧ w'.cell? ⟨w.heap.size, 3, none⟩ = some (ci m) ∧ w'.cell? ⟨ga, k * 3, none⟩ = some (ct x) ∧ w'.cell? ⟨ga, k * 3 + 1, none⟩ = some (ct y) ∧ w'.cell? ⟨ga, k * 3 + 2, none⟩ = some (ci m)) (first | (refine ⟨by with_reducible assumption, by with_reducible assumption, by with_reducible assumption, by with_reducible assumption, by with_reducible assumption, by with_reducible assumption, by with_reducible assumption, by with_reducible assumption⟩) | go_keep) (fail)
  all_goals
    go_wp2_with fail
    go_ret
    obtain ⟨f1, f2⟩ := finH
    exact ⟨rfl, f1.keepN (Fr.drew _ _), f2.same (Fr.drew _ _)⟩
end Go.Proofs.YtnmcehpdiopaiaaGreatDoor.Cd
