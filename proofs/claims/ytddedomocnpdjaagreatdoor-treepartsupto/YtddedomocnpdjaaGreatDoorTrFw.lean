/- TreeFirst. -/
import Derived.Test.YtddedomocnpdjaaGreatDoorTrTAll
import Derived.Test.YtddedomocnpdjaaGreatDoorTrLAll
import Derived.Test.YtddedomocnpdjaaGreatDoorTrF
import Derived.Test.YtddedomocnpdjaaGreatDoorTrK
import Derived.Test.YtddedomocnpdjaaGreatDoorTrG
import Derived.Deep.DeepCutAuto
import Derived.Deep.RegionHeld3
namespace Go.Proofs.YtddedomocnpdjaaGreatDoor
open Go.RowKit Te
set_option linter.unusedSimpArgs false
set_option linter.unusedVariables false

theorem chunks_keep {α : Type} {R R' : α → List Value → Prop} {size : Nat} : ∀ {l : List α} {cs : List Value}, Rw.Chunks R size l cs → (∀ x c, R x c → R' x c) → Rw.Chunks R' size l cs
  | [], cs, h, _ => h
  | y :: l, cs, ⟨d, rest, e, h1, h2, h3⟩, hR => ⟨d, rest, e, h1, hR _ _ h2, chunks_keep h3 hR⟩
theorem alloc_at' (w : World) (o : Obj) (k : Nat) (h : k = w.heap.size) : (w.alloc o).heap[k]? = some o := by rw [h]; exact alloc_new _ _
theorem g21 (w : World) (a b : Obj) : ((w.alloc a).alloc b).heap[w.heap.size]? = some a := (alloc_old _ _ _ (by simp)).trans (alloc_new w a)
theorem g22 (w : World) (a b : Obj) : ((w.alloc a).alloc b).heap[w.heap.size + 1]? = some b := alloc_at' _ _ _ (by simp)
theorem g31 (w : World) (a b c : Obj) : (((w.alloc a).alloc b).alloc c).heap[w.heap.size]? = some a := (alloc_old _ _ _ (by simp; omega)).trans (g21 w a b)
theorem g32 (w : World) (a b c : Obj) : (((w.alloc a).alloc b).alloc c).heap[w.heap.size + 1]? = some b := (alloc_old _ _ _ (by simp)).trans (g22 w a b)
theorem g33 (w : World) (a b c : Obj) : (((w.alloc a).alloc b).alloc c).heap[w.heap.size + 1 + 1]? = some c := alloc_at' _ _ _ (by simp)
theorem h11 (w : World) (a : Obj) : (w.alloc a).drew.heap[w.heap.size]? = some a := alloc_new w a
theorem h21 (w : World) (a b : Obj) : ((w.alloc a).alloc b).drew.heap[w.heap.size]? = some a := g21 w a b
theorem h22 (w : World) (a b : Obj) : ((w.alloc a).alloc b).drew.heap[w.heap.size + 1]? = some b := g22 w a b
theorem h31 (w : World) (a b c : Obj) : (((w.alloc a).alloc b).alloc c).drew.heap[w.heap.size]? = some a := g31 w a b c
theorem h32 (w : World) (a b c : Obj) : (((w.alloc a).alloc b).alloc c).drew.heap[w.heap.size + 1]? = some b := g32 w a b c
theorem h33 (w : World) (a b c : Obj) : (((w.alloc a).alloc b).alloc c).drew.heap[w.heap.size + 1 + 1]? = some c := g33 w a b c
/-- A block that an append leaves alone. -/
theorem keepX {cur w' : World} {A v : Value} {g : Nat} {o : Obj} (f : Fr (fun k => A.ownBlock = some k) cur w') (ho : v.ownBlock = A.ownBlock ∨ v.ownBlock = some cur.heap.size) (hx : cur.heap[g]? = some o) (hne : ¬ A.ownBlock = some g) : w'.heap[g]? = some o ∧ ¬ v.ownBlock = some g := by
  refine ⟨f.heap hx hne, fun e => ?_⟩
  rcases ho with h | h
  · rw [h] at e; exact hne e
  · rw [h] at e
    injection e with e
    have := lt_of_heap hx
    omega
theorem own_is (g off n c : Nat) : (Value.slice (some ⟨g, off, none⟩) n c).ownBlock = some g := rfl
theorem de_row {w : World} {g : Nat} {a b c d e f h : Value} {t : TypeId} (hg : w.heap[g]? = some (.cells #[a, b, c, d, e, f, h] t (0, 0))) : ∀ (j : Nat) (u : Value), [a, b, c, d, e, f, h][j]? = some u → w.cell? ((⟨g, 0, none⟩ : Addr).add j) = some u := by
  intro j u hj
  rw [Addr.add_lit, Nat.zero_add, cell_of_row w g j _ t (0, 0) hg]
  simpa using hj
theorem de_box {w : World} {b : Nat} {x0 x1 x2 x3 x4 x5 x6 : Value} {t : TypeId} (hb : w.heap[b]? = some (.cells #[x0, x1, x2, x3, x4, x5, x6] t (0, 0))) :
    w.cell? ⟨b, 0, none⟩ = some x0 ∧ w.cell? ⟨b, 1, none⟩ = some x1 ∧ w.cell? ⟨b, 2, none⟩ = some x2 ∧ w.cell? ⟨b, 3, none⟩ = some x3 ∧ w.cell? ⟨b, 4, none⟩ = some x4 ∧ w.cell? ⟨b, 5, none⟩ = some x5 ∧ w.cell? ⟨b, 6, none⟩ = some x6 :=
  ⟨cell_of_row _ _ 0 _ _ _ hb, cell_of_row _ _ 1 _ _ _ hb, cell_of_row _ _ 2 _ _ _ hb, cell_of_row _ _ 3 _ _ _ hb, cell_of_row _ _ 4 _ _ _ hb, cell_of_row _ _ 5 _ _ _ hb, cell_of_row _ _ 6 _ _ _ hb⟩
theorem set3 {w : World} {g : Nat} {a b c : Value} {t : TypeId} (hg : w.heap[g]? = some (.cells #[a, b, c] t (0, 0))) (v0 v1 v2 : Value) : (((w.setCell ⟨g, 0, none⟩ v0).setCell ⟨g, 1, none⟩ v1).setCell ⟨g, 2, none⟩ v2).heap[g]? = some (.cells #[v0, v1, v2] t (0, 0)) :=
  heap_setCell_same _ g 2 _ t v2 (heap_setCell_same _ g 1 _ t v1 (heap_setCell_same _ g 0 _ t v0 hg))
theorem fr3 (w : World) (g : Nat) (v0 v1 v2 : Value) : Fr (fun k => k = g) w (((w.setCell ⟨g, 0, none⟩ v0).setCell ⟨g, 1, none⟩ v1).setCell ⟨g, 2, none⟩ v2) := ((Fr.setCell w ⟨g, 0, none⟩ v0).same (Fr.setCell _ ⟨g, 1, none⟩ v1)).same (Fr.setCell _ ⟨g, 2, none⟩ v2)
/-- The module with a declaration more, in a box of its own. -/
def AllR (V : World) (name : Bs) (iv : Value) (l : List De) (p : Value) (wx : World) : Prop := ∃ g a c, p = .pointer (some ⟨g, 0, none⟩) ∧ wx.heap[g]? = some (.cells #[ct name, iv, .slice a l.length c] 25 (0, 0)) ∧ DeL wx a c l ∧ Fr (fun _ => False) V wx
theorem all_new {V w5 : World} {B : Nat} {name : Bs} {iv : Value} {l : List De} {a : Option Addr} {c n : Nat} (hr : Rw.Row (Rw.RD V) 30 7 w5 B (.slice a n c) l) (hn : n = l.length) (g5 : Fr (fun _ => False) V w5) :
    AllR V name iv l (.pointer (some ⟨w5.heap.size, 0, none⟩)) (w5.alloc (.cells #[ct name, iv, .slice a n c] 25 (0, 0))) := by
  subst hn
  obtain ⟨a', c', e, hd⟩ := hr.deL g5
  simp only [Value.slice.injEq, true_and] at e
  obtain ⟨rfl, rfl⟩ := e
  exact ⟨_, a, c, rfl, alloc_new _ _, hd.keep (Fr.alloc _ _ _), g5.same (Fr.alloc _ _ _)⟩
theorem all_old {V w5 : World} {B g : Nat} {name : Bs} {iv x y z : Value} {l : List De} {a : Option Addr} {c n : Nat} (hr : Rw.Row (Rw.RD V) 30 7 w5 B (.slice a n c) l) (hn : n = l.length) (g5 : Fr (fun _ => False) V w5) (hY : w5.heap[g]? = some (.cells #[x, y, z] 25 (0, 0)) ∧ ¬ (Value.slice a n c).ownBlock = some g) (hg : V.heap.size ≤ g) :
    AllR V name iv l (.pointer (some ⟨g, 0, none⟩)) (((w5.setCell ⟨g, 0, none⟩ (ct name)).setCell ⟨g, 1, none⟩ iv).setCell ⟨g, 2, none⟩ (.slice a n c)) := by
  subst hn
  have gF := g5.over (fr3 w5 g (ct name) iv (.slice a l.length c)) (fun k e => by omega)
  obtain ⟨a', c', e, hd⟩ := (hr.keep (fr3 w5 g (ct name) iv (.slice a l.length c)) (fun k hk e => hY.2 (by rw [hk, e]))).deL gF
  simp only [Value.slice.injEq, true_and] at e
  obtain ⟨rfl, rfl⟩ := e
  exact ⟨g, a, c, rfl, set3 hY.1 _ _ _, hd, gF⟩
set_option maxRecDepth 20000 in
set_option maxHeartbeats 16000000 in
theorem first_some (m : Mo) (d : De) (ao : Option Addr) (cap : Nat) (ad : Addr) (capd : Nat) (pa : Option Addr) (pc : Nat) (ea : Option Addr) (ec : Nat) (ba : Option Addr) (bc : Nat) (w : World) (hm : MoI w m (moV m ao cap (some ad) capd)) (om : OkM m) (hs : m.decls.length * 112 ≤ 140737488351232) (hd : DeI w d (.slice pa d.params.length pc) (.slice ea d.e.len ec) (.slice ba d.body.len bc)) (od : OkD d) (ht : F.Tab w)
    (news : List Value) (hch : Rw.Chunks (Rw.RD w) 7 m.decls news) (hone : ∀ u ∈ news, u.oneCell' = true) (hnw0 : ∀ (j : Nat) (u : Value), news[j]? = some u → w.cell? (ad.add j) = some u) :
    Calls Tryz.prog 4 #[moV m ao cap (some ad) capd, deV d (.slice pa d.params.length pc) (.slice ea d.e.len ec) (.slice ba d.body.len bc)] w fun e w' => e = .returned (.bool true) ∧ Fr (fun _ => False) w w' := by
  obtain ⟨W0, hW0⟩ : ∃ W, W = ((w.alloc (.cells #[ct m.name, .slice ao m.imports.length cap, .slice (some ad) m.decls.length capd] 25 (0, 0))).alloc (.cells #[ci d.kind, .bool d.ex, ct d.name, ci d.type, .slice pa d.params.length pc, .slice ea d.e.len ec, .slice ba d.body.len bc] 30 (0, 0))) := ⟨_, rfl⟩
  have f0 : Fr (fun _ => False) w W0 := by rw [hW0]; exact (Fr.alloc _ _ _).same (Fr.alloc _ _ _)
  have hA : W0.heap[w.heap.size]? = some (.cells #[ct m.name, .slice ao m.imports.length cap, .slice (some ad) m.decls.length capd] 25 (0, 0)) := by rw [hW0]; exact g21 _ _ _
  have hB : W0.heap[w.heap.size + 1]? = some (.cells #[ci d.kind, .bool d.ex, ct d.name, ci d.type, .slice pa d.params.length pc, .slice ea d.e.len ec, .slice ba d.body.len bc] 30 (0, 0)) := by rw [hW0]; exact g22 _ _ _
  have hW0H : Hidden (W0 = _) := hW0
  have f0H : Hidden (Fr (fun _ => False) w W0) := f0
  have hsH : Hidden (m.decls.length * 112 ≤ 140737488351232) := hs
  have oa : OkM ⟨m.name, m.imports, m.decls ++ [d]⟩ := ⟨om.name, om.imports, fun x hx => by
    rcases List.mem_append.1 hx with hx | hx
    · exact om.decls x hx
    · simp only [List.mem_singleton] at hx; subst hx; exact od⟩
  have o1 : OkM ⟨m.name, [], [d]⟩ := ⟨om.name, fun x hx => by simp at hx, fun x hx => by simp only [List.mem_singleton] at hx; subst hx; exact od⟩
  have kl := live_any W0 (tab_fr ht f0)
  have kM := fun (u : World) (f : Fr (fun _ => False) w u) => right_any m _ u om (hm.keep f)
  have b1 : 64 < m.decls.length + 1 → errM rnS cnS ⟨m.name, m.imports, m.decls ++ [d]⟩ ≠ 0 := first_big rnS cnS m d
  have b2 : m.decls.length + 1 ≤ 64 → errM rnS cnS m ≠ 0 → errM rnS cnS ⟨m.name, m.imports, m.decls ++ [d]⟩ = errM rnS cnS m := first_wrong rnS cnS m d
  have b3 : m.decls.length + 1 ≤ 64 → errM rnS cnS m = 0 → errM rnS cnS ⟨m.name, m.imports, m.decls ++ [d]⟩ = errM rnS cnS ⟨m.name, [], [d]⟩ := first_right rnS cnS m d
  have kA := fun (u : World) (a : Option Addr) (c : Nat) (hu : Fr (fun _ => False) w u) (h : DeL u a c (m.decls ++ [d])) => right_any ⟨m.name, m.imports, m.decls ++ [d]⟩ (.agg #[ct m.name, .slice ao m.imports.length cap, .slice a (m.decls ++ [d]).length c]) u oa ⟨ao, cap, a, c, rfl, by obtain ⟨_, _, _, _, e, h1, _⟩ := hm; cases e; exact h1.keep hu, h⟩
  have kO := fun (u : World) (g : Nat) (hu : Fr (fun _ => False) w u) (h : u.heap[g]? = some (.cells #[ci d.kind, .bool d.ex, ct d.name, ci d.type, .slice pa d.params.length pc, .slice ea d.e.len ec, .slice ba d.body.len bc] 30 (0, 0))) => right_any ⟨m.name, [], [d]⟩ (.agg #[ct m.name, .slice none 0 0, .slice (some ⟨g, 0, none⟩) 1 1]) u o1 ⟨none, 0, some ⟨g, 0, none⟩, 1, rfl, ⟨by simp, by simp [maxLen], Or.inl rfl⟩, ⟨by simp, by simp [maxLen], Or.inr ⟨g, 0, rfl, fun i x hx => by
    match i, hx with
    | 0, hx =>
      obtain rfl : d = x := by simpa using hx
      refine ⟨_, _, _, hd.keep hu, fun j y hy => ?_⟩
      rw [Nat.zero_mul, Nat.add_zero, Nat.zero_add, cell_of_row u g j _ _ (0, 0) h]
      simpa [deC] using hy⟩⟩⟩
  generalize errM rnS cnS m = E1 at kM b2 b3
  generalize errM rnS cnS ⟨m.name, m.imports, m.decls ++ [d]⟩ = E2 at kA b1 b2 b3
  generalize errM rnS cnS ⟨m.name, [], [d]⟩ = E3 at kO b3
  have b1H : Hidden (64 < m.decls.length + 1 → E2 ≠ 0) := b1
  have b2H : Hidden (m.decls.length + 1 ≤ 64 → E1 ≠ 0 → E2 = E1) := b2
  have b3H : Hidden (m.decls.length + 1 ≤ 64 → E1 = 0 → E2 = E3) := b3
  have kMH : Hidden (∀ (u : World) (f : Fr (fun _ => False) w u), Calls Tryz.prog 9 #[moV m ao cap (some ad) capd] u fun e w' => e = .returned (ci E1) ∧ Fr (fun _ => False) u w') := kM
  have hml : m.decls.length ≤ 9223372036854775807 := by omega
  have hcap : m.imports.length ≤ cap ∧ cap ≤ 9223372036854775807 := by obtain ⟨_, _, _, _, e, h1, _⟩ := hm; cases e; have := h1.2.1; unfold maxLen at this; exact ⟨h1.1, by omega⟩
  have hcapd : m.decls.length ≤ capd ∧ capd ≤ 9223372036854775807 := by obtain ⟨_, _, _, _, e, _, h1⟩ := hm; cases e; have := h1.2.1; unfold maxLen at this; exact ⟨h1.1, by omega⟩
  have hdH : Hidden (DeI w d (.slice pa d.params.length pc) (.slice ea d.e.len ec) (.slice ba d.body.len bc)) := hd
  have hchH : Hidden (Rw.Chunks (Rw.RD w) 7 m.decls news) := hch
  clear hW0 b1 b2 b3 kM hm om hs hd od ht oa o1 hch
  go_enter Tryz.func4, Tryz.ntmps4
  go_wp2_with fail
  rw [← (show W0 = _ from hW0H)]
  go_at_call 5
  refine kl.mono ?_
  rintro e V ⟨rfl, f1⟩
  have gV : Fr (fun _ => False) w V := f0.same f1
  obtain ⟨c0, c1, c2⟩ := mo_box (f1.heap hA (fun f => f))
  obtain ⟨d0, d1, d2, d3, d4, d5, d6⟩ := de_box (f1.heap hB (fun f => f))
  have hch : Rw.Chunks (Rw.RD V) 7 m.decls news := chunks_keep hchH (fun x c ⟨pv, ev, bv, h1, h2⟩ => ⟨pv, ev, bv, h1.keep gV, h2⟩)
  have hch1 : Rw.Chunks (Rw.RD V) 7 [d] [ci d.kind, .bool d.ex, ct d.name, ci d.type, .slice pa d.params.length pc, .slice ea d.e.len ec, .slice ba d.body.len bc] := ⟨deC d _ _ _, [], by simp [deC], rfl, ⟨_, _, _, (show DeI w d _ _ _ from hdH).keep gV, rfl⟩, rfl⟩
  have hone1 : ∀ u ∈ [ci d.kind, .bool d.ex, ct d.name, ci d.type, .slice pa d.params.length pc, .slice ea d.e.len ec, .slice ba d.body.len bc], u.oneCell' = true := by
    intro u hu
    simp only [List.mem_cons, List.not_mem_nil, or_false] at hu
    rcases hu with rfl | rfl | rfl | rfl | rfl | rfl | rfl <;> rfl
  have hl1 : (m.decls ++ [d]).length = m.decls.length + 1 := by simp
  have hnw : Hidden (∀ (j : Nat) (u : Value), news[j]? = some u → V.cell? (ad.add j) = some u) := fun j u hu => gV.cellN (hnw0 j u hu)
  have gVH : Hidden (Fr (fun _ => False) w V) := gV
  clear hA hB f0 f1 kl hchH hdH gV hnw0
  go_upto_region 3 with fail
  go_cut [5] (fun p wx => AllR V m.name (.slice ao m.imports.length cap) (m.decls ++ [d]) p wx)
  case first =>
    clear kA kO kMH b1H b2H b3H
    have hVlt : w.heap.size + 1 < V.heap.size := World.block_lt_of_cell? V _ d0
    have m0 : V.heap.size ≠ w.heap.size := World.new_ne V _ c0
    have m1 : V.heap.size ≠ w.heap.size + 1 := World.new_ne V _ d0
    have m2 : V.heap.size + 1 ≠ w.heap.size := Nat.ne_of_gt (Nat.lt_succ_of_lt (World.block_lt_of_cell? V _ c0))
    have m3 : V.heap.size + 1 ≠ w.heap.size + 1 := Nat.ne_of_gt (Nat.lt_succ_of_lt (World.block_lt_of_cell? V _ d0))
    have m4 : V.heap.size + 1 + 1 ≠ w.heap.size := by omega
    have m5 : V.heap.size + 1 + 1 ≠ w.heap.size + 1 := by omega
    go_region_held3 (fun w' => w'.cell? ⟨w.heap.size, 0, none⟩ = some (ct m.name) ∧ w'.cell? ⟨w.heap.size, 1, none⟩ = some (.slice ao m.imports.length cap) ∧ w'.cell? ⟨w.heap.size, 2, none⟩ = some (.slice (some ad) m.decls.length capd) ∧ w'.cell? ⟨w.heap.size + 1, 0, none⟩ = some (ci d.kind) ∧ w'.cell? ⟨w.heap.size + 1, 1, none⟩ = some (.bool d.ex) ∧ w'.cell? ⟨w.heap.size + 1, 2, none⟩ = some (ct d.name) ∧ w'.cell? ⟨w.heap.size + 1, 3, none⟩ = some (ci d.type) ∧ w'.cell? ⟨w.heap.size + 1, 4, none⟩ = some (.slice pa d.params.length pc) ∧ w'.cell? ⟨w.heap.size + 1, 5, none⟩ = some (.slice ea d.e.len ec) ∧ w'.cell? ⟨w.heap.size + 1, 6, none⟩ = some (.slice ba d.body.len bc)) (first | (refine ⟨by with_reducible assumption, by with_reducible assumption, by with_reducible assumption, by with_reducible assumption, by with_reducible assumption, by with_reducible assumption, by with_reducible assumption, by with_reducible assumption, by with_reducible assumption, by with_reducible assumption⟩) | (refine ⟨?_, ?_, ?_, ?_, ?_, ?_, ?_, ?_, ?_, ?_⟩; (focus (refine Fr.cellN (w := V) ?_ c0; (repeat (first | (with_reducible assumption) | (with_reducible exact Fr.refl _ _) | (with_reducible refine Fr.same ?_ (Fr.alloc _ _ _)) | (with_reducible refine Fr.same ?_ (Fr.drew _ _)))); done)); (focus (refine Fr.cellN (w := V) ?_ c1; (repeat (first | (with_reducible assumption) | (with_reducible exact Fr.refl _ _) | (with_reducible refine Fr.same ?_ (Fr.alloc _ _ _)) | (with_reducible refine Fr.same ?_ (Fr.drew _ _)))); done)); (focus (refine Fr.cellN (w := V) ?_ c2; (repeat (first | (with_reducible assumption) | (with_reducible exact Fr.refl _ _) | (with_reducible refine Fr.same ?_ (Fr.alloc _ _ _)) | (with_reducible refine Fr.same ?_ (Fr.drew _ _)))); done)); (focus (refine Fr.cellN (w := V) ?_ d0; (repeat (first | (with_reducible assumption) | (with_reducible exact Fr.refl _ _) | (with_reducible refine Fr.same ?_ (Fr.alloc _ _ _)) | (with_reducible refine Fr.same ?_ (Fr.drew _ _)))); done)); (focus (refine Fr.cellN (w := V) ?_ d1; (repeat (first | (with_reducible assumption) | (with_reducible exact Fr.refl _ _) | (with_reducible refine Fr.same ?_ (Fr.alloc _ _ _)) | (with_reducible refine Fr.same ?_ (Fr.drew _ _)))); done)); (focus (refine Fr.cellN (w := V) ?_ d2; (repeat (first | (with_reducible assumption) | (with_reducible exact Fr.refl _ _) | (with_reducible refine Fr.same ?_ (Fr.alloc _ _ _)) | (with_reducible refine Fr.same ?_ (Fr.drew _ _)))); done)); (focus (refine Fr.cellN (w := V) ?_ d3; (repeat (first | (with_reducible assumption) | (with_reducible exact Fr.refl _ _) | (with_reducible refine Fr.same ?_ (Fr.alloc _ _ _)) | (with_reducible refine Fr.same ?_ (Fr.drew _ _)))); done)); (focus (refine Fr.cellN (w := V) ?_ d4; (repeat (first | (with_reducible assumption) | (with_reducible exact Fr.refl _ _) | (with_reducible refine Fr.same ?_ (Fr.alloc _ _ _)) | (with_reducible refine Fr.same ?_ (Fr.drew _ _)))); done)); (focus (refine Fr.cellN (w := V) ?_ d5; (repeat (first | (with_reducible assumption) | (with_reducible exact Fr.refl _ _) | (with_reducible refine Fr.same ?_ (Fr.alloc _ _ _)) | (with_reducible refine Fr.same ?_ (Fr.drew _ _)))); done)); (focus (refine Fr.cellN (w := V) ?_ d6; (repeat (first | (with_reducible assumption) | (with_reducible exact Fr.refl _ _) | (with_reducible refine Fr.same ?_ (Fr.alloc _ _ _)) | (with_reducible refine Fr.same ?_ (Fr.drew _ _)))); done))) | go_keep) (first
      | (have hq := hr4H; refine Rw.step_rows (R := Rw.RD V) rfl _ _ 23 30 (.agg #[.int .i64 0, .bool false, .string ⟨#[]⟩, .int .i64 0, .slice none 0 0, .slice none 0 0, .slice none 0 0]) 7 112 Tryz.underlying23 Rw.info_de rfl (by decide) rfl V.heap.size v4 m.decls [d] [ci d.kind, .bool d.ex, ct d.name, ci d.type, .slice pa d.params.length pc, .slice ea d.e.len ec, .slice ba d.body.len bc] ⟨_, 0, none⟩ 1 1 rfl ?_ rfl rfl hch1 ?_ hone1 ?_ ?_ ?_ ?_; (focus (refine (show Rw.Row (Rw.RD V) 30 7 w4 V.heap.size v4 m.decls from hr4H).keep (S := fun _ => False) ?_ (fun _ _ f => f); (repeat (first | (with_reducible assumption) | (with_reducible exact Fr.refl _ _) | (with_reducible refine Fr.same ?_ (Fr.alloc _ _ _)) | (with_reducible refine Fr.same ?_ (Fr.drew _ _)))))); (focus (refine de_row (t := 30) ?_; (first | (first | (with_reducible exact alloc_new _ _) | (with_reducible exact g21 _ _ _) | (with_reducible exact g22 _ _ _)) | (refine Fr.heap (S := fun _ => False) (w := w4) ?_ hD0.1 (fun f => f); (repeat (first | (with_reducible assumption) | (with_reducible exact Fr.refl _ _) | (with_reducible refine Fr.same ?_ (Fr.alloc _ _ _)) | (with_reducible refine Fr.same ?_ (Fr.drew _ _)))); done) | (refine Fr.heap (S := fun _ => False) (w := w4) ?_ hD1.1 (fun f => f); (repeat (first | (with_reducible assumption) | (with_reducible exact Fr.refl _ _) | (with_reducible refine Fr.same ?_ (Fr.alloc _ _ _)) | (with_reducible refine Fr.same ?_ (Fr.drew _ _)))); done) | (refine Fr.heap (S := fun _ => False) (w := w4) ?_ hD2.1 (fun f => f); (repeat (first | (with_reducible assumption) | (with_reducible exact Fr.refl _ _) | (with_reducible refine Fr.same ?_ (Fr.alloc _ _ _)) | (with_reducible refine Fr.same ?_ (Fr.drew _ _)))); done)))); (focus (have : m.decls.length * 112 ≤ 140737488351232 := hsH; simp [maxLen]; omega)); (focus (have : m.decls.length * 112 ≤ 140737488351232 := hsH; simp only [List.length_singleton]; omega)); (focus (refine Fr.size (S := fun _ => False) ?_; (repeat (first | (with_reducible assumption) | (with_reducible exact Fr.refl _ _) | (with_reducible refine Fr.same ?_ (Fr.alloc _ _ _)) | (with_reducible refine Fr.same ?_ (Fr.drew _ _)))))); intro v5 w5 hr5 f5 ho5; have g5 : Fr (fun _ => False) V w5 := (by refine Fr.over ?_ f5 ?_; (focus (repeat (first | (with_reducible assumption) | (with_reducible exact Fr.refl _ _) | (with_reducible refine Fr.same ?_ (Fr.alloc _ _ _)) | (with_reducible refine Fr.same ?_ (Fr.drew _ _))))); (focus (intro k e; exact ((show Rw.Row (Rw.RD V) 30 7 w4 V.heap.size v4 m.decls from hr4H).low k e).1))); have q0 := g5.cellN c0; have q1 := g5.cellN c1; have q2 := g5.cellN c2; have r0 := g5.cellN d0; have r1 := g5.cellN d1; have r2 := g5.cellN d2; have r3 := g5.cellN d3; have r4 := g5.cellN d4; have r5 := g5.cellN d5; have r6 := g5.cellN d6; obtain ⟨a5, c5, e5, hc5, hm5, _⟩ := hr5.slice; rw [hl1] at e5; subst e5; (try (have hY := keepX (g := V.heap.size) (o := (.cells #[.string ⟨#[]⟩, .slice none 0 0, .slice none 0 0] 25 (0, 0))) f5 ho5 (by refine Fr.heap (S := fun _ => False) (w := w4) ?_ hX0.1 (fun f => f); (repeat (first | (with_reducible assumption) | (with_reducible exact Fr.refl _ _) | (with_reducible refine Fr.same ?_ (Fr.alloc _ _ _)) | (with_reducible refine Fr.same ?_ (Fr.drew _ _)))); done) hX0.2; obtain ⟨y0, y1, y2⟩ := mo_box hY.1; have z0 := frozen_row hY.1 0; have z1 := frozen_row hY.1 1; have z2 := frozen_row hY.1 2)); (try (have hY := keepX (g := V.heap.size + 1) (o := (.cells #[.string ⟨#[]⟩, .slice none 0 0, .slice none 0 0] 25 (0, 0))) f5 ho5 (by refine Fr.heap (S := fun _ => False) (w := w4) ?_ hX1.1 (fun f => f); (repeat (first | (with_reducible assumption) | (with_reducible exact Fr.refl _ _) | (with_reducible refine Fr.same ?_ (Fr.alloc _ _ _)) | (with_reducible refine Fr.same ?_ (Fr.drew _ _)))); done) hX1.2; obtain ⟨y0, y1, y2⟩ := mo_box hY.1; have z0 := frozen_row hY.1 0; have z1 := frozen_row hY.1 1; have z2 := frozen_row hY.1 2)); (try (have hY := keepX (g := V.heap.size + 1 + 1) (o := (.cells #[.string ⟨#[]⟩, .slice none 0 0, .slice none 0 0] 25 (0, 0))) f5 ho5 (by refine Fr.heap (S := fun _ => False) (w := w4) ?_ hX2.1 (fun f => f); (repeat (first | (with_reducible assumption) | (with_reducible exact Fr.refl _ _) | (with_reducible refine Fr.same ?_ (Fr.alloc _ _ _)) | (with_reducible refine Fr.same ?_ (Fr.drew _ _)))); done) hX2.2; obtain ⟨y0, y1, y2⟩ := mo_box hY.1; have z0 := frozen_row hY.1 0; have z1 := frozen_row hY.1 1; have z2 := frozen_row hY.1 2)); (try (have hY := keepX (g := w4.heap.size) (o := (.cells #[.string ⟨#[]⟩, .slice none 0 0, .slice none 0 0] 25 (0, 0))) f5 ho5 (by (first | (with_reducible exact alloc_new _ _) | (with_reducible exact g21 _ _ _) | (with_reducible exact g22 _ _ _)); done) (fun e => by have := ((show Rw.Row (Rw.RD V) 30 7 w4 V.heap.size v4 m.decls from hr4H).low _ e).2; omega); obtain ⟨y0, y1, y2⟩ := mo_box hY.1; have z0 := frozen_row hY.1 0; have z1 := frozen_row hY.1 1; have z2 := frozen_row hY.1 2)); (try (have hY := keepX (g := w4.heap.size + 1) (o := (.cells #[.string ⟨#[]⟩, .slice none 0 0, .slice none 0 0] 25 (0, 0))) f5 ho5 (by (first | (with_reducible exact alloc_new _ _) | (with_reducible exact g21 _ _ _) | (with_reducible exact g22 _ _ _)); done) (fun e => by have := ((show Rw.Row (Rw.RD V) 30 7 w4 V.heap.size v4 m.decls from hr4H).low _ e).2; omega); obtain ⟨y0, y1, y2⟩ := mo_box hY.1; have z0 := frozen_row hY.1 0; have z1 := frozen_row hY.1 1; have z2 := frozen_row hY.1 2)); have hr5H : Hidden (Rw.Row (Rw.RD V) 30 7 w5 V.heap.size (.slice a5 (m.decls.length + 1) c5) (m.decls ++ [d])) := hr5; clear hr5 hc5 hm5)
      | (refine Rw.step_rows (R := Rw.RD V) rfl _ _ 23 30 (.agg #[.int .i64 0, .bool false, .string ⟨#[]⟩, .int .i64 0, .slice none 0 0, .slice none 0 0, .slice none 0 0]) 7 112 Tryz.underlying23 Rw.info_de rfl (by decide) rfl V.heap.size (.slice (some ⟨_, 0, none⟩) 0 0) [] m.decls news ad m.decls.length capd rfl ?_ rfl rfl hch ?_ hone ?_ ?_ ?_ ?_; (focus (refine Rw.Row.new _ _ 7 _ _ _ ?_ ?_; (focus (first | (exact Nat.le_refl _) | omega)); (focus (first | (with_reducible exact h11 _ _) | (with_reducible exact h21 _ _ _) | (with_reducible exact h22 _ _ _) | (with_reducible exact h31 _ _ _ _) | (with_reducible exact h32 _ _ _ _) | (with_reducible exact h33 _ _ _ _))))); (focus (intro j u hj; refine Fr.cellN (w := V) ?_ ((show ∀ (j : Nat) (u : Value), news[j]? = some u → V.cell? (ad.add j) = some u from hnw) j u hj); (repeat (first | (with_reducible assumption) | (with_reducible exact Fr.refl _ _) | (with_reducible refine Fr.same ?_ (Fr.alloc _ _ _)) | (with_reducible refine Fr.same ?_ (Fr.drew _ _)))))); (focus (have : m.decls.length * 112 ≤ 140737488351232 := hsH; simp [maxLen]; omega)); (focus (have : m.decls.length * 112 ≤ 140737488351232 := hsH; simp; omega)); (focus (refine Fr.size (S := fun _ => False) ?_; (repeat (first | (with_reducible assumption) | (with_reducible exact Fr.refl _ _) | (with_reducible refine Fr.same ?_ (Fr.alloc _ _ _)) | (with_reducible refine Fr.same ?_ (Fr.drew _ _)))))); intro v4 w4 hr4 f4 ho4; rw [List.nil_append] at hr4; have g4 : Fr (fun _ => False) V w4 := (by refine Fr.over ?_ f4 ?_; (focus (repeat (first | (with_reducible assumption) | (with_reducible exact Fr.refl _ _) | (with_reducible refine Fr.same ?_ (Fr.alloc _ _ _)) | (with_reducible refine Fr.same ?_ (Fr.drew _ _))))); (focus (intro k e; rw [own_is] at e; injection e with e; omega))); have q0 := g4.cellN c0; have q1 := g4.cellN c1; have q2 := g4.cellN c2; have r0 := g4.cellN d0; have r1 := g4.cellN d1; have r2 := g4.cellN d2; have r3 := g4.cellN d3; have r4 := g4.cellN d4; have r5 := g4.cellN d5; have r6 := g4.cellN d6; (try (have hD0 := keepX (g := V.heap.size) (o := (.cells #[ci d.kind, .bool d.ex, ct d.name, ci d.type, .slice pa d.params.length pc, .slice ea d.e.len ec, .slice ba d.body.len bc] 30 (0, 0))) f4 ho4 (by (first | (with_reducible exact h11 _ _) | (with_reducible exact h21 _ _ _) | (with_reducible exact h22 _ _ _) | (with_reducible exact h31 _ _ _ _) | (with_reducible exact h32 _ _ _ _) | (with_reducible exact h33 _ _ _ _)); done) (fun e => by rw [own_is] at e; injection e with e; omega))); (try (have hD1 := keepX (g := V.heap.size + 1) (o := (.cells #[ci d.kind, .bool d.ex, ct d.name, ci d.type, .slice pa d.params.length pc, .slice ea d.e.len ec, .slice ba d.body.len bc] 30 (0, 0))) f4 ho4 (by (first | (with_reducible exact h11 _ _) | (with_reducible exact h21 _ _ _) | (with_reducible exact h22 _ _ _) | (with_reducible exact h31 _ _ _ _) | (with_reducible exact h32 _ _ _ _) | (with_reducible exact h33 _ _ _ _)); done) (fun e => by rw [own_is] at e; injection e with e; omega))); (try (have hD2 := keepX (g := V.heap.size + 1 + 1) (o := (.cells #[ci d.kind, .bool d.ex, ct d.name, ci d.type, .slice pa d.params.length pc, .slice ea d.e.len ec, .slice ba d.body.len bc] 30 (0, 0))) f4 ho4 (by (first | (with_reducible exact h11 _ _) | (with_reducible exact h21 _ _ _) | (with_reducible exact h22 _ _ _) | (with_reducible exact h31 _ _ _ _) | (with_reducible exact h32 _ _ _ _) | (with_reducible exact h33 _ _ _ _)); done) (fun e => by rw [own_is] at e; injection e with e; omega))); (try (have hX0 := keepX (g := V.heap.size) (o := (.cells #[.string ⟨#[]⟩, .slice none 0 0, .slice none 0 0] 25 (0, 0))) f4 ho4 (by (first | (with_reducible exact h11 _ _) | (with_reducible exact h21 _ _ _) | (with_reducible exact h22 _ _ _) | (with_reducible exact h31 _ _ _ _) | (with_reducible exact h32 _ _ _ _) | (with_reducible exact h33 _ _ _ _)); done) (fun e => by rw [own_is] at e; injection e with e; omega))); (try (have hX1 := keepX (g := V.heap.size + 1) (o := (.cells #[.string ⟨#[]⟩, .slice none 0 0, .slice none 0 0] 25 (0, 0))) f4 ho4 (by (first | (with_reducible exact h11 _ _) | (with_reducible exact h21 _ _ _) | (with_reducible exact h22 _ _ _) | (with_reducible exact h31 _ _ _ _) | (with_reducible exact h32 _ _ _ _) | (with_reducible exact h33 _ _ _ _)); done) (fun e => by rw [own_is] at e; injection e with e; omega))); (try (have hX2 := keepX (g := V.heap.size + 1 + 1) (o := (.cells #[.string ⟨#[]⟩, .slice none 0 0, .slice none 0 0] 25 (0, 0))) f4 ho4 (by (first | (with_reducible exact h11 _ _) | (with_reducible exact h21 _ _ _) | (with_reducible exact h22 _ _ _) | (with_reducible exact h31 _ _ _ _) | (with_reducible exact h32 _ _ _ _) | (with_reducible exact h33 _ _ _ _)); done) (fun e => by rw [own_is] at e; injection e with e; omega))); have n40 : w4.heap.size ≠ w.heap.size := World.new_ne w4 _ q0; have n41 : w4.heap.size ≠ w.heap.size + 1 := World.new_ne w4 _ r0; have n42 : w4.heap.size + 1 ≠ w.heap.size := Nat.ne_of_gt (Nat.lt_succ_of_lt (World.block_lt_of_cell? w4 _ q0)); have n43 : w4.heap.size + 1 ≠ w.heap.size + 1 := Nat.ne_of_gt (Nat.lt_succ_of_lt (World.block_lt_of_cell? w4 _ r0)); have hr4H : Hidden (Rw.Row (Rw.RD V) 30 7 w4 V.heap.size v4 m.decls) := hr4; clear hr4)
      )
    all_goals go_wp2_with fail
    all_goals go_meet
    all_goals first
      | exact all_new hr5H hl1.symm g5
      | exact all_old hr5H hl1.symm g5 hY (by have := g4.size; omega)
  case rest =>
  obtain ⟨g, a, c, rfl, hbx, hdl, fx⟩ := hcut
  have gx : Fr (fun _ => False) w wc := (show Fr (fun _ => False) w V from gVH).same fx
  replace c0 := fx.cellN c0
  replace c1 := fx.cellN c1
  replace c2 := fx.cellN c2
  replace d0 := fx.cellN d0
  replace d1 := fx.cellN d1
  replace d2 := fx.cellN d2
  replace d3 := fx.cellN d3
  replace d4 := fx.cellN d4
  replace d5 := fx.cellN d5
  replace d6 := fx.cellN d6
  rw [hl1] at hbx
  obtain ⟨e0, e1, e2⟩ := mo_box hbx
  have hca : c ≤ 9223372036854775807 := by have := hdl.2.1; unfold maxLen at this; omega
  have hla : m.decls.length + 1 ≤ c := by have := hdl.1; rw [hl1] at this; exact this
  have kM := (show ∀ (u : World) (f : Fr (fun _ => False) w u), _ from kMH) wc gx
  have kA2 : ∀ (u : World), Fr (fun _ => False) wc u → Calls Tryz.prog 9 #[.agg #[ct m.name, .slice ao m.imports.length cap, .slice a (m.decls.length + 1) c]] u fun e w' => e = .returned (ci E2) ∧ Fr (fun _ => False) u w' := fun u hu => by
    have := kA u a c (gx.same hu) (hdl.keep hu)
    rw [hl1] at this
    exact this
  have kO2 : ∀ (u : World) (g : Nat), Fr (fun _ => False) wc u → u.heap[g]? = some (.cells #[ci d.kind, .bool d.ex, ct d.name, ci d.type, .slice pa d.params.length pc, .slice ea d.e.len ec, .slice ba d.body.len bc] 30 (0, 0)) → Calls Tryz.prog 9 #[.agg #[ct m.name, .slice none 0 0, .slice (some ⟨g, 0, none⟩) 1 1]] u fun e w' => e = .returned (ci E3) ∧ Fr (fun _ => False) u w' := fun u g hu hh => kO u g (gx.same hu) hh
  clear kA kO hbx hdl hch hch1 hone1 hone hl1 hnw
  go_upto_region 4 with fail
  go_upto_region 5 with (go_at_call 9; refine kM.mono ?_; rintro e w5 ⟨rfl, f5⟩)
  have gx5 : Fr (fun _ => False) w w5 := gx.same f5
  replace c0 := f5.cellN c0
  replace c1 := f5.cellN c1
  replace c2 := f5.cellN c2
  replace d0 := f5.cellN d0
  replace d1 := f5.cellN d1
  replace d2 := f5.cellN d2
  replace d3 := f5.cellN d3
  replace d4 := f5.cellN d4
  replace d5 := f5.cellN d5
  replace d6 := f5.cellN d6
  replace e0 := f5.cellN e0
  replace e1 := f5.cellN e1
  replace e2 := f5.cellN e2
  have kA3 := kA2 w5 f5
  have gxH : Hidden (Fr (fun _ => False) w w5) := gx5
  clear kM gx gx5
  by_cases hbig : 64 < m.decls.length + 1
  · have t1 : ((m.decls.length : Int) + 1 > 64) := by omega
    have t2 : decide ((64 : Int) < (m.decls.length : Int) + 1) = true := by simp; omega
    have t3 : (E2 != 0) = true := by have := (show 64 < m.decls.length + 1 → E2 ≠ 0 from b1H) hbig; simpa using this
    have t4 : (E2 == 0) = false := by have := (show 64 < m.decls.length + 1 → E2 ≠ 0 from b1H) hbig; simpa using this
    clear hbig
    go_wp2_with (go_at_call 9; refine kA3.mono ?_; rintro e w6 ⟨rfl, f6⟩)
    go_ret
    exact ⟨rfl, (show Fr (fun _ => False) w w5 from gxH).same f6⟩
  · have t1 : ¬ ((64 : Int) < (m.decls.length : Int) + 1) := by omega
    have t2 : decide ((64 : Int) < (m.decls.length : Int) + 1) = false := by simp; omega
    by_cases hE : E1 = 0
    · have h3 : E2 = E3 := (show m.decls.length + 1 ≤ 64 → E1 = 0 → E2 = E3 from b3H) (by omega) hE
      subst hE
      subst h3
      clear hbig b1H b2H b3H kA3
      go_upto_region 9 with fail
      go_region_held3 (fun w' => Fr (fun _ => False) w5 w' ∧ w'.cell? ⟨w.heap.size, 0, none⟩ = some (ct m.name) ∧ w'.cell? ⟨w.heap.size + 1, 0, none⟩ = some (ci d.kind) ∧ w'.cell? ⟨w.heap.size + 1, 1, none⟩ = some (.bool d.ex) ∧ w'.cell? ⟨w.heap.size + 1, 2, none⟩ = some (ct d.name) ∧ w'.cell? ⟨w.heap.size + 1, 3, none⟩ = some (ci d.type) ∧ w'.cell? ⟨w.heap.size + 1, 4, none⟩ = some (.slice pa d.params.length pc) ∧ w'.cell? ⟨w.heap.size + 1, 5, none⟩ = some (.slice ea d.e.len ec) ∧ w'.cell? ⟨w.heap.size + 1, 6, none⟩ = some (.slice ba d.body.len bc) ∧ w'.cell? ⟨g, 0, none⟩ = some (ct m.name) ∧ w'.cell? ⟨g, 1, none⟩ = some (.slice ao m.imports.length cap) ∧ w'.cell? ⟨g, 2, none⟩ = some (.slice a (m.decls.length + 1) c)) (first | (refine ⟨?_, ?_, ?_, ?_, ?_, ?_, ?_, ?_, ?_, ?_, ?_, ?_⟩; (focus ((repeat (first | (with_reducible assumption) | (with_reducible exact Fr.refl _ _) | (with_reducible refine Fr.same ?_ (Fr.alloc _ _ _)) | (with_reducible refine Fr.same ?_ (Fr.drew _ _)))); done)); (focus (refine Fr.cellN (w := w5) ?_ c0; (repeat (first | (with_reducible assumption) | (with_reducible exact Fr.refl _ _) | (with_reducible refine Fr.same ?_ (Fr.alloc _ _ _)) | (with_reducible refine Fr.same ?_ (Fr.drew _ _)))); done)); (focus (refine Fr.cellN (w := w5) ?_ d0; (repeat (first | (with_reducible assumption) | (with_reducible exact Fr.refl _ _) | (with_reducible refine Fr.same ?_ (Fr.alloc _ _ _)) | (with_reducible refine Fr.same ?_ (Fr.drew _ _)))); done)); (focus (refine Fr.cellN (w := w5) ?_ d1; (repeat (first | (with_reducible assumption) | (with_reducible exact Fr.refl _ _) | (with_reducible refine Fr.same ?_ (Fr.alloc _ _ _)) | (with_reducible refine Fr.same ?_ (Fr.drew _ _)))); done)); (focus (refine Fr.cellN (w := w5) ?_ d2; (repeat (first | (with_reducible assumption) | (with_reducible exact Fr.refl _ _) | (with_reducible refine Fr.same ?_ (Fr.alloc _ _ _)) | (with_reducible refine Fr.same ?_ (Fr.drew _ _)))); done)); (focus (refine Fr.cellN (w := w5) ?_ d3; (repeat (first | (with_reducible assumption) | (with_reducible exact Fr.refl _ _) | (with_reducible refine Fr.same ?_ (Fr.alloc _ _ _)) | (with_reducible refine Fr.same ?_ (Fr.drew _ _)))); done)); (focus (refine Fr.cellN (w := w5) ?_ d4; (repeat (first | (with_reducible assumption) | (with_reducible exact Fr.refl _ _) | (with_reducible refine Fr.same ?_ (Fr.alloc _ _ _)) | (with_reducible refine Fr.same ?_ (Fr.drew _ _)))); done)); (focus (refine Fr.cellN (w := w5) ?_ d5; (repeat (first | (with_reducible assumption) | (with_reducible exact Fr.refl _ _) | (with_reducible refine Fr.same ?_ (Fr.alloc _ _ _)) | (with_reducible refine Fr.same ?_ (Fr.drew _ _)))); done)); (focus (refine Fr.cellN (w := w5) ?_ d6; (repeat (first | (with_reducible assumption) | (with_reducible exact Fr.refl _ _) | (with_reducible refine Fr.same ?_ (Fr.alloc _ _ _)) | (with_reducible refine Fr.same ?_ (Fr.drew _ _)))); done)); (focus (refine Fr.cellN (w := w5) ?_ e0; (repeat (first | (with_reducible assumption) | (with_reducible exact Fr.refl _ _) | (with_reducible refine Fr.same ?_ (Fr.alloc _ _ _)) | (with_reducible refine Fr.same ?_ (Fr.drew _ _)))); done)); (focus (refine Fr.cellN (w := w5) ?_ e1; (repeat (first | (with_reducible assumption) | (with_reducible exact Fr.refl _ _) | (with_reducible refine Fr.same ?_ (Fr.alloc _ _ _)) | (with_reducible refine Fr.same ?_ (Fr.drew _ _)))); done)); (focus (refine Fr.cellN (w := w5) ?_ e2; (repeat (first | (with_reducible assumption) | (with_reducible exact Fr.refl _ _) | (with_reducible refine Fr.same ?_ (Fr.alloc _ _ _)) | (with_reducible refine Fr.same ?_ (Fr.drew _ _)))); done)))) (first
        | (go_at_call 9; with_reducible (refine Calls.mono (kA2 _ ?_) ?_); (focus (repeat (first | (with_reducible assumption) | (with_reducible exact Fr.refl _ _) | (with_reducible refine Fr.same ?_ (Fr.alloc _ _ _)) | (with_reducible refine Fr.same ?_ (Fr.drew _ _))))); rintro e wa ⟨rfl, fa⟩; have ga : Fr (fun _ => False) w5 wa := (by refine Fr.same ?_ fa; (repeat (first | (with_reducible assumption) | (with_reducible exact Fr.refl _ _) | (with_reducible refine Fr.same ?_ (Fr.alloc _ _ _)) | (with_reducible refine Fr.same ?_ (Fr.drew _ _))))); have ga2 := f5.same ga; (try (have hDa : wa.heap[w5.heap.size]? = some (.cells #[ci d.kind, .bool d.ex, ct d.name, ci d.type, .slice pa d.params.length pc, .slice ea d.e.len ec, .slice ba d.body.len bc] 30 (0, 0)) := fa.heap (by with_reducible exact h11 _ _; done) (fun f => f))))
        | (go_at_call 9; with_reducible (refine Calls.mono (kO2 _ _ ?_ ?_) ?_); (focus (repeat (first | (with_reducible assumption) | (with_reducible exact Fr.refl _ _) | (with_reducible refine Fr.same ?_ (Fr.alloc _ _ _)) | (with_reducible refine Fr.same ?_ (Fr.drew _ _))))); (focus (first | (with_reducible exact h11 _ _) | (with_reducible exact alloc_new _ _) | (with_reducible exact hDa))); rintro e wb ⟨rfl, fb⟩; have gb : Fr (fun _ => False) w5 wb := (by refine Fr.same ?_ fb; (repeat (first | (with_reducible assumption) | (with_reducible exact Fr.refl _ _) | (with_reducible refine Fr.same ?_ (Fr.alloc _ _ _)) | (with_reducible refine Fr.same ?_ (Fr.drew _ _))))); have gb2 := f5.same gb)
        )
      all_goals (go_split_ands)
      all_goals go_wp2_with fail
      all_goals go_ret
      all_goals exact ⟨rfl, (show Fr (fun _ => False) w w5 from gxH).same (by (repeat (first | (with_reducible assumption) | (with_reducible exact Fr.refl _ _) | (with_reducible refine Fr.same ?_ (Fr.alloc _ _ _)) | (with_reducible refine Fr.same ?_ (Fr.drew _ _)))))⟩
    · have h2 : E2 = E1 := (show m.decls.length + 1 ≤ 64 → E1 ≠ 0 → E2 = E1 from b2H) (by omega) hE
      subst h2
      have t3 : (E2 != 0) = true := by simpa using hE
      have t4 : (E2 == 0) = false := by simpa using hE
      clear hbig hE b1H b2H b3H
      go_wp2_with (go_at_call 9; refine kA3.mono ?_; rintro e w6 ⟨rfl, f6⟩)
      go_ret
      exact ⟨rfl, (show Fr (fun _ => False) w w5 from gxH).same f6⟩
end Go.Proofs.YtddedomocnpdjaaGreatDoor
