/- Texts of ours, in one. -/
import Derived.Test.YtakkiipkmogagaaGreatFoK2
import Derived.Laws.MakeOwn
import Derived.Maps.RangeWalk
import Derived.Maps.OwnSet
import Derived.Maps.Views
import Derived.Test.YtakkiipkmogagaaGreatFoP
import Derived.Test.YtakkiipkmogagaaGreatTyH
namespace Go.Proofs.YtakkiipkmogagaaGreat.Fo
open Go.RowKit Te
set_option linter.unusedSimpArgs false
set_option linter.unusedVariables false

/-- The value of a constant, or of a variable at first. -/
def valAt (d : De) (kn : List Con) : Vl × Int := match d.e with
  | .cons h k .nil => if (evalS kn h k).2 ≠ 0 then ((0, 0), (evalS kn h k).2) else if (evalS kn h k).1.1 ≠ d.type then ((0, 0), 22) else ((evalS kn h k).1, 0)
  | _ => ((0, 0), 22)
/-- The constants, the variables; or the place of an error, and the error. -/
def decGo (far : List Con) : List De → Nat → List Bs → List Con → List Con → List Con × List Con × Int × Int
  | [], _, _, cs, vs => (cs, vs, 0, 0)
  | d :: r, i, seen, cs, vs =>
    if d.name ∈ seen then ([], [], (i : Int), 20)
    else if d.kind ≠ 1 ∧ d.kind ≠ 2 then decGo far r (i + 1) (d.name :: seen) cs vs
    else if (valAt d (cs.reverse ++ far)).2 ≠ 0 then ([], [], (i : Int), (valAt d (cs.reverse ++ far)).2)
    else if d.kind = 2 then decGo far r (i + 1) (d.name :: seen) cs (vs ++ [⟨[], d.name, (valAt d (cs.reverse ++ far)).1.1, (valAt d (cs.reverse ++ far)).1.2⟩])
    else decGo far r (i + 1) (d.name :: seen) (cs ++ [⟨[], d.name, (valAt d (cs.reverse ++ far)).1.1, (valAt d (cs.reverse ++ far)).1.2⟩]) vs
def decS (far : List Con) (l : List De) : List Con × List Con × Int × Int := decGo far l 0 [] [] []
/-- A constant of nothing: what a row that was just made holds. -/
abbrev zC : Con := ⟨[], [], 0, 0⟩
/-- One element of a row put anew. -/
abbrev s4 (w : World) (g p : Nat) (c : Con) : World := (((w.setCell ⟨g, p, none⟩ (ct c.mod)).setCell ⟨g, p + 1, none⟩ (ct c.name)).setCell ⟨g, p + 2, none⟩ (ci c.t)).setCell ⟨g, p + 3, none⟩ (.int .u64 c.b)
theorem s4_fr (w : World) (g p : Nat) (c : Con) : Fr (fun k => k = g) w (s4 w g p c) := (((Fr.setCell w ⟨g, p, none⟩ _).same (Fr.setCell _ ⟨g, p + 1, none⟩ _)).same (Fr.setCell _ ⟨g, p + 2, none⟩ _)).same (Fr.setCell _ ⟨g, p + 3, none⟩ _)
theorem chunks_is : ∀ (l : List Con) (cs : List Value), Rw.Chunks RC 4 l cs → cs = l.flatMap coC
  | [], cs, h => h
  | c :: l, cs, ⟨d, rest, e, h1, h2, h3⟩ => by
    have h2 : d = coC c := h2
    rw [e, h2, chunks_is l rest h3, List.flatMap_cons]
theorem is_chunks : ∀ (l : List Con), Rw.Chunks RC 4 l (l.flatMap coC)
  | [] => rfl
  | c :: l => ⟨coC c, l.flatMap coC, by rw [List.flatMap_cons], rfl, rfl, is_chunks l⟩
theorem flat_set : ∀ (l : List Con) (i : Nat) (c : Con), i < l.length → (l.set i c).flatMap coC = ((((l.flatMap coC).set (i * 4) (ct c.mod)).set (i * 4 + 1) (ct c.name)).set (i * 4 + 2) (ci c.t)).set (i * 4 + 3) (.int .u64 c.b)
  | [], i, c, h => by simp at h
  | x :: l, 0, c, h => by simp [coC]
  | x :: l, i + 1, c, h => by
    have ih := flat_set l i c (by simpa using h)
    rw [List.set_cons_succ, List.flatMap_cons, ih, List.flatMap_cons]
    have e : ∀ (j : Nat), (i + 1) * 4 + j = (coC x).length + (i * 4 + j) := fun j => by simp [coC]; omega
    have e0 : (i + 1) * 4 = (coC x).length + i * 4 := by simp [coC]; omega
    rw [e 1, e 2, e 3, e0]
    simp only [List.set_append_right _ _ (Nat.le_add_right _ _), Nat.add_sub_cancel_left]
theorem cow_cur {w : World} {B : Nat} {ao : Option Addr} {n cap : Nat} {l : List Con} (h : CoW w B (.slice ao n cap) l) : (l = [] ∧ ao = none ∧ cap = 0) ∨ ∃ g cur, ao = some ⟨g, 0, none⟩ ∧ n = l.length ∧ w.heap[g]? = some (.cells cur 137 (0, 0)) ∧ B ≤ g ∧ n ≤ cap ∧ cap ≤ maxLen ∧ cur.size = cap * 4 ∧ cur.toList.take (l.length * 4) = l.flatMap coC := by
  obtain ⟨cells, h1, h2⟩ := h
  have e := chunks_is l cells h2
  rcases h1.2 with ⟨e1, h0⟩ | ⟨g, cap', cur, e1, hb, hg, hnc, hcm, hcs, ht⟩
  · cases e1
    exact Or.inl ⟨List.eq_nil_of_length_eq_zero h0, rfl, rfl⟩
  · cases e1
    exact Or.inr ⟨g, cur, rfl, rfl, hg, hb, hnc, hcm, hcs, by rw [ht, e]⟩
theorem cow_set {w : World} {B g n cap : Nat} {l : List Con} (h : CoW w B (.slice (some ⟨g, 0, none⟩) n cap) l) {i : Nat} (hi : i < l.length) (c : Con) : CoW (s4 w g (i * 4) c) B (.slice (some ⟨g, 0, none⟩) n cap) (l.set i c) := by
  rcases cow_cur h with ⟨rfl, _, _⟩ | ⟨g', cur, e, hn, hg, hB, hnc, hcm, hcs, ht⟩
  · simp at hi
  simp only [Option.some.injEq, Addr.mk.injEq, and_true] at e
  obtain ⟨rfl, _⟩ := e
  have h1 := heap_setCell_same w g (i * 4) cur 137 (ct c.mod) hg
  have h2 := heap_setCell_same _ g (i * 4 + 1) _ 137 (ct c.name) h1
  have h3 := heap_setCell_same _ g (i * 4 + 2) _ 137 (ci c.t) h2
  have h4 := heap_setCell_same _ g (i * 4 + 3) _ 137 (.int .u64 c.b) h3
  subst hn
  refine ⟨(l.set i c).flatMap coC, ⟨?_, Or.inr ⟨g, cap, _, by rw [List.length_set], hB, h4, by rw [List.length_set]; exact hnc, hcm, by simpa using hcs, ?_⟩⟩, is_chunks _⟩
  · rw [(is_chunks (l.set i c)).len]
  · rw [List.length_set, flat_set l i c hi, ← ht]
    simp only [Array.toList_setIfInBounds, List.take_set]
/-- What stands behind a place of the row. -/
theorem cow_drop {w : World} {B : Nat} {ao : Option Addr} {n cap : Nat} {l : List Con} (h : CoW w B (.slice ao n cap) l) (i : Nat) (hi : i ≤ l.length) (ao' : Option Addr) (ha : ∀ g, ao = some ⟨g, 0, none⟩ → i < cap → ao' = some ⟨g, i * 4, none⟩) : CoL w ao' (cap - i) (l.drop i) := by
  obtain ⟨ao2, cap2, e, hc⟩ := h.col
  cases e
  obtain ⟨c1, c2, c3⟩ := hc
  refine ⟨by rw [List.length_drop]; omega, by omega, ?_⟩
  by_cases hd : l.drop i = []
  · exact Or.inl hd
  · have hil : i < l.length := by
      apply Classical.byContradiction
      intro hn
      exact hd (List.drop_eq_nil_of_le (by omega))
    rcases cow_cur h with ⟨rfl, _, _⟩ | ⟨g, cur, rfl, hn, hg, hB, hnc, hcm, hcs, ht⟩
    · simp at hil
    · refine Or.inr ⟨g, i * 4, ha g rfl (by omega), fun j x hx k u hu => ?_⟩
      rw [List.getElem?_drop] at hx
      rcases c3 with c3 | ⟨b, off, eb, c3⟩
      · rw [c3] at hil; simp at hil
      · cases eb
        have := c3 (i + j) x hx k u hu
        rw [show i * 4 + j * 4 + k = 0 + (i + j) * 4 + k by omega]
        exact this
/-- A row that was just made. -/
theorem flat_zero (n j : Nat) (hj : j < n * 4) : ((List.replicate n zC).flatMap coC)[j]? = (coC zC)[j % 4]? := by
  have hc := is_chunks (List.replicate n zC)
  have hi : (List.replicate n zC)[j / 4]? = some zC := by rw [List.getElem?_replicate, if_pos (by omega)]
  obtain ⟨c, h1, h2, h3⟩ := hc.get hi
  have h1 : c = coC zC := h1
  subst h1
  have hm : j % 4 < (coC zC).length := by simp [coC]; omega
  have := h3 (j % 4) _ (List.getElem?_eq_getElem hm)
  rw [show j / 4 * 4 + j % 4 = j by omega] at this
  rw [this, List.getElem?_eq_getElem hm]
theorem made_get (n j : Nat) (hj : j < n) : (madeCells (Value.agg #[.string ⟨#[]⟩, .string ⟨#[]⟩, .int .i64 0, .int .u64 0]).cells n)[j]? = (coC zC)[j % 4]? := by
  have h4 : j % 4 = 0 ∨ j % 4 = 1 ∨ j % 4 = 2 ∨ j % 4 = 3 := by omega
  unfold madeCells
  rw [Array.getElem?_map]
  have : (Array.range n)[j]? = some j := by simp [hj]
  rw [this]
  show some ((#[.string ⟨#[]⟩, .string ⟨#[]⟩, .int .i64 0, .int .u64 0] : Array Value)[j % 4]!) = _
  rcases h4 with h | h | h | h <;> rw [h] <;> rfl
theorem made_row (w : World) (n cap : Nat) (h : n ≤ cap) (hc : cap ≤ maxLen) : CoW (w.alloc (.cells (madeCells (Value.agg #[.string ⟨#[]⟩, .string ⟨#[]⟩, .int .i64 0, .int .u64 0]).cells (cap * 4)) 137)) w.heap.size (.slice (some ⟨w.heap.size, 0, none⟩) n cap) (List.replicate n zC) := by
  refine ⟨(List.replicate n zC).flatMap coC, ⟨?_, Or.inr ⟨w.heap.size, cap, _, by rw [List.length_replicate], Nat.le_refl _, alloc_new w _, by rw [List.length_replicate]; exact h, hc, size_madeCells _ _, ?_⟩⟩, is_chunks _⟩
  · rw [(is_chunks (List.replicate n zC)).len]
  · rw [List.length_replicate]
    apply List.ext_getElem?
    intro j
    by_cases hj : j < n * 4
    · rw [List.getElem?_take_of_lt hj, flat_zero n j hj]
      have := made_get (cap * 4) j (by omega)
      rw [← this]
      simp
    · rw [List.getElem?_eq_none (by rw [List.length_take]; omega), List.getElem?_eq_none (by rw [(is_chunks (List.replicate n zC)).len, List.length_replicate]; omega)]
theorem make_any (w : World) (n cap : Nat) (h : n ≤ cap) (hc : cap ≤ 1048576) : (Instr.makeSlice 93 (.int .i64 (n : Int)) (.int .i64 (cap : Int))).run Tryz.prog w = .ok (.slice (some ⟨w.heap.size, 0, none⟩) n cap) (w.alloc (.cells (madeCells (Value.agg #[.string ⟨#[]⟩, .string ⟨#[]⟩, .int .i64 0, .int .u64 0]).cells (cap * 4)) 137)) := by
  cases hi : Tryz.prog.info? 137 with
  | none => have := info_con; rw [hi] at this; cases this
  | some i =>
    have hh := info_con
    rw [hi] at hh
    simp only [Option.map_some, Option.some.injEq, Prod.mk.injEq] at hh
    have := run_makeSlice (P := Tryz.prog) w 93 137 i _ Tryz.underlying93 hi hh.1 .i64 .i64 n cap (by omega) (by omega) (by rw [hh.2.1]; simp; omega) (by rw [hh.2.2]; omega) (by omega)
    rw [this, hh.2.1]
    simp
end Go.Proofs.YtakkiipkmogagaaGreat.Fo

namespace Go.Proofs.YtakkiipkmogagaaGreat.Fo
open Go.RowKit Te
set_option linter.unusedSimpArgs false
set_option linter.unusedVariables false

/-- A list of expressions that is not one. -/
theorem valAt_not {d : De} {kn : List Con} (h : d.e.len ≠ 1) : valAt d kn = ((0, 0), 22) := by
  unfold valAt
  cases e : d.e with
  | nil => rfl
  | cons h1 k r => cases r with
    | nil => rw [e] at h; exact absurd rfl h
    | cons _ _ _ => rfl
theorem len_one {x : Exs} (h : x.len = 1) : ∃ h k, x = .cons h k .nil := by
  cases x with
  | nil => cases h
  | cons h1 k r => cases r with
    | nil => exact ⟨h1, k, rfl⟩
    | cons a b c => simp only [Exs.len] at h; omega
set_option maxRecDepth 20000 in
set_option maxHeartbeats 2000000 in
theorem vaf_any (d : De) (pv ev bv : Value) (l : List Con) (hok : ∀ c ∈ l, U64 c.b) (la : Option Addr) (lc : Nat) (w : World) (od : OkD d) (hd : DeI w d pv ev bv) (hl : CoL w la lc l) :
    Calls Tryz.prog 80 #[deV d pv ev bv, .slice la l.length lc] w fun e w' => e = .returned (.tuple #[vv (valAt d l).1, ci (valAt d l).2]) ∧ Fr FN w w' := by
  obtain ⟨ao1, cap1, ao2, cap2, ao3, cap3, rfl, rfl, rfl, hp, he, hb⟩ := hd
  have m2 : cap2 ≤ 9223372036854775807 := by have := he.2.1; unfold maxLen at this; omega
  have n2 := he.1
  obtain ⟨W0, hW0⟩ : ∃ W, W = ((w.alloc (.cells #[ci d.kind, .bool d.ex, ct d.name, ci d.type, .slice ao1 d.params.length cap1, .slice ao2 d.e.len cap2, .slice ao3 d.body.len cap3] 59)).alloc zo) := ⟨_, rfl⟩
  have f0 : Fr FN w W0 := by rw [hW0]; exact (Fr.alloc _ _ _).same (Fr.alloc _ _ _)
  have hA : Hidden (W0.heap[w.heap.size]? = some (.cells #[ci d.kind, .bool d.ex, ct d.name, ci d.type, .slice ao1 d.params.length cap1, .slice ao2 d.e.len cap2, .slice ao3 d.body.len cap3] 59 (0, 0))) := by rw [hW0]; exact (alloc_old _ _ _ (by simp)).trans (alloc_new _ _)
  have hB : Hidden (W0.heap[w.heap.size + 1]? = some zo) := by rw [hW0]; exact alloc_at _ _ _ (by simp)
  have hW0H : Hidden (W0 = _) := hW0
  have hS : Hidden (W0.heap.size = w.heap.size + 2) := by rw [hW0]; simp [Hidden]
  obtain ⟨a0, a1, a2, a3, a4, a5, a6⟩ := ex_box hA
  obtain ⟨b0, b1, z0, z1⟩ := box2 hB
  by_cases h1 : d.e.len = 1
  · obtain ⟨h, k, e⟩ := len_one h1
    have oe := od.e
    rw [e] at oe
    rw [h1] at a5 hA hW0H
    obtain ⟨b, off, rfl, hx⟩ : ∃ b off, ao2 = some ⟨b, off, none⟩ ∧ ExA w d.e b off := by
      rcases he.2.2 with h0 | h0
      · omega
      · exact h0
    rw [e] at hx
    obtain ⟨⟨xo, xc, hc, k1, k2, k3⟩, _⟩ := hx
    have hI : Hidden (ExI W0 h k (exV h (.slice xo k.len xc))) := ExI.keep ⟨xo, xc, rfl, k1, k2, k3⟩ f0
    have c0 := f0.cellN (hc 0 _ rfl)
    have c1 := f0.cellN (hc 1 _ rfl)
    have c2 := f0.cellN (hc 2 _ rfl)
    have c3 := f0.cellN (hc 3 _ rfl)
    have c4 := f0.cellN (hc 4 _ rfl)
    have c5 := f0.cellN (hc 5 _ rfl)
    have c6 := f0.cellN (hc 6 _ rfl)
    have kE : ∀ u, Fr FN W0 u → Calls Tryz.prog 114 #[exV h (.slice xo k.len xc), .slice la l.length lc] u fun e w' => e = .returned (.tuple #[vv (evalS l h k).1, ci (evalS l h k).2]) ∧ Fr FN u w' := fun u hu => eval_any l hok h k _ la lc u oe.1 oe.2.1 (ExI.keep hI hu) (hl.keep (f0.same hu))
    have hv : Hidden (valAt d l = if (evalS l h k).2 ≠ 0 then ((0, 0), (evalS l h k).2) else if (evalS l h k).1.1 ≠ d.type then ((0, 0), 22) else ((evalS l h k).1, 0)) := by unfold valAt; rw [e]; rfl
    generalize hR : evalS l h k = R at kE hv
    obtain ⟨⟨rt, rb⟩, re⟩ := R
    clear hR hW0 e hc k3 hl hok he hp hb
    rw [show valAt d l = _ from hv]
    have hD : ∀ u, Fr FN W0 u → u.cell? ⟨w.heap.size, 3, none⟩ = some (ci d.type) := fun u hu => hu.cellN a3
    have hBB : ∀ u, Fr FN W0 u → u.heap[w.heap.size + 1]? = some zo := fun u hu => hu.heap hB (fun f => f)
    simp only [Nat.add_zero] at c0
    rw [show W0 = _ from hW0H] at c0 c1 c2 c3 c4 c5 c6
    go_enter Tryz.func80, Tryz.ntmps80
    go_wp2_with fail
    rw [← (show W0 = _ from hW0H)]
    go_at_call 114
    refine (kE _ (Fr.refl _ _)).mono ?_
    rintro e w3 ⟨rfl, f3⟩
    have g3 := f0.same f3
    have e3 := hD w3 f3
    have eB := hBB w3 f3
    obtain ⟨b0', b1', z0', z1'⟩ := box2 eB
    have lt3 := lt_of_heap eB
    have qB : ∀ o : Obj, (w3.alloc o).heap[w.heap.size + 1]? = some zo := fun o => (alloc_old _ _ _ lt3).trans eB
    have e3' : ∀ o : Obj, (w3.alloc o).cell? ⟨w.heap.size, 3, none⟩ = some (ci d.type) := fun o => (Fr.alloc FN w3 o).cellN e3
    have y0 : ∀ o : Obj, (w3.alloc o).frozen? ⟨w.heap.size + 1, 0, none⟩ = false := fun o => frozen_row (qB o) 0
    have y1 : ∀ o : Obj, (w3.alloc o).frozen? ⟨w.heap.size + 1, 1, none⟩ = false := fun o => frozen_row (qB o) 1
    have y2 : ∀ o : Obj, (w3.alloc o).cell? ⟨w.heap.size + 1, 0, none⟩ = some (ci 0) := fun o => cell_of_row _ _ 0 _ _ _ (qB o)
    have y3 : ∀ o : Obj, (w3.alloc o).cell? ⟨w.heap.size + 1, 1, none⟩ = some (.int .u64 0) := fun o => cell_of_row _ _ 1 _ _ _ (qB o)
    by_cases hre : re = 0
    · subst hre
      by_cases hrt : rt = d.type
      · subst hrt
        simp only [ne_eq, not_true_eq_false, if_false]
        go_wp2_with fail
        exact post_v ((alloc_old _ _ _ (by simpa using lt3)).trans (set_two eB _ _)) rfl rfl rfl ⟨rfl, (fr_two g3 (by omega) _ _).same (Fr.alloc _ _ _)⟩
      · simp only [ne_eq, not_true_eq_false, if_false, hrt, not_false_eq_true, if_true]
        go_wp2_with fail
        exact post_v ((alloc_old _ _ _ (by simpa using lt3)).trans (set_two eB _ _)) rfl rfl rfl ⟨rfl, (fr_two g3 (by omega) _ _).same (Fr.alloc _ _ _)⟩
    · simp only [ne_eq, hre, not_false_eq_true, if_true]
      go_wp2_with fail
      exact post_v ((alloc_old _ _ _ (by simpa using lt3)).trans (set_two eB _ _)) rfl rfl rfl ⟨rfl, (fr_two g3 (by omega) _ _).same (Fr.alloc _ _ _)⟩
  · rw [valAt_not h1]
    clear hW0 hl hok he hp hb
    go_enter Tryz.func80, Tryz.ntmps80
    go_wp2_with fail
    rw [← (show W0 = _ from hW0H)]
    go_wp2_with fail
    exact post_v hB rfl rfl rfl ⟨rfl, f0⟩
end Go.Proofs.YtakkiipkmogagaaGreat.Fo

namespace Go.Proofs.YtakkiipkmogagaaGreat.Fo
open Go.RowKit Te
set_option linter.unusedSimpArgs false
set_option linter.unusedVariables false

abbrev SK : Maps.Keyed Tryz.prog 9 := Maps.string_keyed Tryz.underlying9
theorem key_str (s : Bs) (h : OkN s) : keyOf Tryz.prog 9 (ct s) = some (.string s) := by
  rw [keyOf_string Tryz.underlying9]
  have hs : s.length ≤ maxLen := by unfold OkN at h; unfold maxLen; omega
  simp [mapKey, Tryz.underlying9, ByteArray.size, hs]
theorem keylit (s : Bs) : WideAt.IsKeyLit (.string s) := trivial
theorem set_under : Tryz.prog.underlying 131 = some (.map 9 132) := Tryz.underlying131
theorem zero_un (w : World) : (zeroValue 132).run Tryz.prog w = .ok (.agg #[]) w := Tryz.zeroValue132 w
theorem own_fr {H : Type} {R : Value → Option (DataW H × List MemPlace)} {S : Nat → Prop} {w w' : World} {b n : Nat} {D : DataW H} (h : w.ownsMap Tryz.prog 9 R b n D) (hf : Fr S w w') (hb : ¬ S b) : w'.ownsMap Tryz.prog 9 R b n D := by
  obtain ⟨es, clock, h1, h2⟩ := h
  exact ⟨es, clock, hf.heap h1 hb, h2⟩
theorem grownby_fr {w w' : World} {row : Option Nat} (h : w.grownBy w' row) : Fr (fun k => row = some k) w w' := (Fr.grown h).mono fun k _ e => e.symm
def SM (w : World) (b n : Nat) (u : List Bs) : Prop := ∃ D : DataW Value, w.ownsMap Tryz.prog 9 unitElem b n D ∧ ∀ s : Bs, Maps.has D (.string s) = decide (s ∈ u)
theorem SM.keep {S : Nat → Prop} {w w' : World} {b n : Nat} {u : List Bs} (h : SM w b n u) (hf : Fr S w w') (hb : ¬ S b) : SM w' b n u := by
  obtain ⟨D, h1, h2⟩ := h
  exact ⟨D, own_fr h1 hf hb, h2⟩
theorem SM.later {w w' : World} {b n : Nat} {u : List Bs} (h : SM w b n u) (hf : Fr (fun _ => False) w w') : SM w' b n u := h.keep hf (fun f => f)
theorem SM.lt {w : World} {b n : Nat} {u : List Bs} (h : SM w b n u) : b < w.heap.size := by
  obtain ⟨D, h1, _⟩ := h
  exact h1.lt
theorem SM.new (w : World) : SM (w.alloc (.map #[] 0)) w.heap.size 0 [] := ⟨_, World.ownsMap_made w _ _ _, fun s => rfl⟩
theorem SM.look {w : World} {b n : Nat} {u : List Bs} (h : SM w b n u) (s : Bs) (hs : OkN s) : (Instr.lookup 131 (.map (some b)) (ct s) true).run Tryz.prog w = .ok (.tuple #[.agg #[], .bool (decide (s ∈ u))]) w := by
  obtain ⟨D, h1, h2⟩ := h
  obtain ⟨v, ps, hrun, hv⟩ := h1.look_ok SK set_under (zero_un w) unitElem_mk (key_str s hs)
  obtain ⟨rfl, _⟩ := unitElem_inv hv
  rw [h2 s] at hrun
  exact hrun
theorem SM.put {w : World} {b n : Nat} {u : List Bs} (h : SM w b n u) (s : Bs) (hs : OkN s) (hn : n < 9223372036854775807) : ∃ w', (Instr.mapUpdate 131 (.map (some b)) (ct s) (.agg #[])).run Tryz.prog w = .ok () w' ∧ SM w' b (n + 1) (s :: u) ∧ Fr (fun k => k = b) w w' := by
  obtain ⟨D, h1, h2⟩ := h
  obtain ⟨w', hrun, h3, h4⟩ := h1.update SK set_under (by unfold maxLen; omega) (key_str s hs) unitElem_mk
  refine ⟨w', hrun, ⟨_, h3, fun x => ?_⟩, (grownby_fr h4).mono fun k _ e => (Option.some.inj e).symm⟩
  by_cases e : x = s
  · subst e
    rw [Maps.has_put_same h1.isMap (keylit _) _]
    simp
  · have hne : (Lit.string x) ≠ .string s := fun h => e (by cases h; rfl)
    rw [Maps.has_put_other hne, h2 x]
    simp [e]
end Go.Proofs.YtakkiipkmogagaaGreat.Fo

namespace Go.Proofs.YtakkiipkmogagaaGreat.Fo
open Go.RowKit Te
set_option linter.unusedSimpArgs false
set_option linter.unusedVariables false

theorem evalS_b (l : List Con) (hok : ∀ c ∈ l, U64 c.b) (h : EH) (hh : OkE h) (k : Exs) (hk : OkX k) : U64 (evalS l h k).1.2 := by
  have hz : U64 0 := ⟨by decide, by decide⟩
  unfold evalS
  split
  · have hu := evX_U l hok h hh k hk
    generalize evX l h k = E at hu ⊢
    cases E with
    | ok v => exact hu v rfl
    | flt c => exact hz
    | trp c => exact hz
  · exact hz
theorem valAt_b {d : De} (od : OkD d) (l : List Con) (hok : ∀ c ∈ l, U64 c.b) : U64 (valAt d l).1.2 := by
  have hz : U64 0 := ⟨by decide, by decide⟩
  have oe := od.e
  unfold valAt
  split
  · rename_i h k e
    rw [e] at oe
    have := evalS_b l hok h oe.1 k oe.2.1
    split
    · exact hz
    · split
      · exact hz
      · exact this
  · exact hz
theorem size_con (u : World) : (sizeOf 137).run Tryz.prog u = .ok 4 u := by
  simp [sizeOf, go_sem]
  rfl
/-- What a row holds from a place on. -/
theorem slice_from_row (kg L kc f : Nat) (h : f ≤ L) : ∃ ao', (f < kc → ao' = some ⟨kg, f * 4, none⟩) ∧ ∀ u : World, (Instr.slice 93 (.slice (some ⟨kg, 0, none⟩) L kc) (some (.int .i64 (f : Int))) none none).run Tryz.prog u = .ok (.slice ao' (L - f) (kc - f)) u := by
  refine ⟨if kc = f then some ⟨kg, 0, none⟩ else some ⟨kg, f * 4, none⟩, fun hf => by rw [if_neg (by omega)], fun u => ?_⟩
  have he : Tryz.prog.elem 93 = 137 := by kernel_rfl
  rw [run_slice_l u _ _ _ _ (by rw [he]; exact Tryz.underlying93) .i64 (f : Int) (by omega) (by omega), he, size_con u]
  simp only [Result.andThen, sliced, Int.toNat_natCast]
  by_cases hk : kc = f
  · simp [hk]
  · simp [hk, Addr.add_lit]
end Go.Proofs.YtakkiipkmogagaaGreat.Fo

namespace Go.Proofs.YtakkiipkmogagaaGreat.Fo
open Go.RowKit Te
set_option linter.unusedSimpArgs false
set_option linter.unusedVariables false

abbrev mkO (c : Nat) : Obj := .cells (madeCells (Value.agg #[.string ⟨#[]⟩, .string ⟨#[]⟩, .int .i64 0, .int .u64 0]).cells (c * 4)) 137 (0, 0)
/-- A set with room for so many. -/
theorem run_set (n : Int) (w : World) : (Instr.makeMap 131 (some (.int .i64 n))).run Tryz.prog w = .ok (.map (some w.heap.size)) (w.alloc (.map #[] 0)) := by
  simp [Instr.makeMap, run_underlying set_under, asInt, Result.andThen]
  try rfl
theorem results_tmp4 {fn : Func} {t u v x : Tmp} (h : fn.results = #[.tmp t, .tmp u, .tmp v, .tmp x]) (tmps : Array Value) (P : Program) (w : World) :
    (results fn tmps).run P w = .ok (.tuple #[tmps.getD t undef, tmps.getD u undef, tmps.getD v undef, tmps.getD x undef]) w := by
  simp [results, h]
theorem cow_base {w : World} {B B' : Nat} {v : Value} {l : List Con} (h : CoW w B v l) (hb : B' ≤ B) : CoW w B' v l := by
  obtain ⟨cells, ⟨h0, h1⟩, h2⟩ := h
  refine ⟨cells, ⟨h0, ?_⟩, h2⟩
  rcases h1 with h1 | ⟨g, cap, cur, a, b, c⟩
  · exact Or.inl h1
  · exact Or.inr ⟨g, cap, cur, a, by omega, c⟩
theorem two_put {w : World} {g : Nat} {a b : Value} {t : TypeId} (h : w.heap[g]? = some (.cells #[a, b] t (0, 0))) (x y : Value) : ((w.setCell ⟨g, 0, none⟩ x).setCell ⟨g, 1, none⟩ y).heap[g]? = some (.cells #[x, y] t (0, 0)) := by
  have h1 := heap_setCell_same w g 0 #[a, b] t x h
  have h2 := heap_setCell_same _ g 1 _ t y h1
  exact h2
theorem two_at (w : World) (g : Nat) (x y : Value) : Fr (fun k => k = g) w ((w.setCell ⟨g, 0, none⟩ x).setCell ⟨g, 1, none⟩ y) := (Fr.setCell w ⟨g, 0, none⟩ _).same (Fr.setCell _ ⟨g, 1, none⟩ _)
theorem con_box {w : World} {b : Nat} {x0 x1 x2 x3 : Value} {t : TypeId} (hb : w.heap[b]? = some (.cells #[x0, x1, x2, x3] t (0, 0))) :
    w.cell? ⟨b, 0, none⟩ = some x0 ∧ w.cell? ⟨b, 1, none⟩ = some x1 ∧ w.cell? ⟨b, 2, none⟩ = some x2 ∧ w.cell? ⟨b, 3, none⟩ = some x3 :=
  ⟨cell_of_row _ _ 0 _ _ _ hb, cell_of_row _ _ 1 _ _ _ hb, cell_of_row _ _ 2 _ _ _ hb, cell_of_row _ _ 3 _ _ _ hb⟩
theorem zero_at {w : World} {B kg L kc F : Nat} {l : List Con} (h : CoW w B (.slice (some ⟨kg, 0, none⟩) L kc) (List.replicate (F + 1) zC ++ l)) :
    w.cell? ⟨kg, F * 4, none⟩ = some (ct []) ∧ w.cell? ⟨kg, F * 4 + 1, none⟩ = some (ct []) ∧ w.cell? ⟨kg, F * 4 + 2, none⟩ = some (ci 0) ∧ w.cell? ⟨kg, F * 4 + 3, none⟩ = some (.int .u64 0) ∧
    w.frozen? ⟨kg, F * 4, none⟩ = false ∧ w.frozen? ⟨kg, F * 4 + 1, none⟩ = false ∧ w.frozen? ⟨kg, F * 4 + 2, none⟩ = false ∧ w.frozen? ⟨kg, F * 4 + 3, none⟩ = false := by
  obtain ⟨ao, cap, e, hc⟩ := h.col
  cases e
  have hx : (List.replicate (F + 1) zC ++ l)[F]? = some zC := by rw [List.getElem?_append_left (by simp)]; simp
  rcases cow_cur h with ⟨h0, _⟩ | ⟨g, cur, e, _, hg, _⟩
  · rw [h0] at hx; simp at hx
  cases e
  rcases hc.2.2 with h0 | ⟨b, off, e, hc⟩
  · rw [h0] at hx; simp at hx
  cases e
  have c := hc F zC hx
  have c0 := c 0 _ rfl
  have c1 := c 1 _ rfl
  have c2 := c 2 _ rfl
  have c3 := c 3 _ rfl
  simp only [Nat.zero_add, Nat.add_zero] at c0 c1 c2 c3
  exact ⟨c0, c1, c2, c3, Ty.frozen_row hg _, Ty.frozen_row hg _, Ty.frozen_row hg _, Ty.frozen_row hg _⟩
theorem known_set (F : Nat) (cs far : List Con) (c : Con) : (List.replicate (F + 1) zC ++ (cs.reverse ++ far)).set F c = List.replicate F zC ++ ((cs ++ [c]).reverse ++ far) := by
  rw [List.replicate_succ', List.append_assoc, List.set_append_right _ _ (by simp)]
  simp
set_option maxRecDepth 20000 in
set_option maxHeartbeats 4000000 in
theorem decls_any (far : List Con) (hok : ∀ c ∈ far, U64 c.b) (m : Mo) (v fv : Value) (B2 : Nat) (w : World) (om : OkM m) (hm : MoI w m v) (hf : CoW w B2 fv far) (hb : m.decls.length + far.length ≤ 1048576) :
    Calls Tryz.prog 49 #[v, fv] w fun e w' => ∃ v1 v2, e = .returned (.tuple #[v1, v2, ci (decS far m.decls).2.2.1, ci (decS far m.decls).2.2.2]) ∧ CoW w' w.heap.size v1 (decS far m.decls).1 ∧ CoW w' w.heap.size v2 (decS far m.decls).2.1 ∧ Fr FN w w' := by
  obtain ⟨ao, cap, ad, capd, rfl, hi, hd⟩ := hm
  obtain ⟨fo, fc, rfl, hfl⟩ := hf.col
  have m1 : capd ≤ 9223372036854775807 := by have := hd.2.1; unfold maxLen at this; omega
  have n1 := hd.1
  have n2 := hfl.1
  have m2 : fc ≤ 9223372036854775807 := by have := hfl.2.1; unfold maxLen at this; omega
  have hmm := run_set
  have hmk : ∀ u : World, (Instr.makeSlice 93 (.int .i64 (m.decls.length : Int)) (.int .i64 ((m.decls.length : Int) + (far.length : Int)))).run Tryz.prog u = .ok (.slice (some ⟨u.heap.size, 0, none⟩) m.decls.length (m.decls.length + far.length)) (u.alloc (mkO (m.decls.length + far.length))) := fun u => by
    have := make_any u m.decls.length (m.decls.length + far.length) (by omega) hb
    rw [Int.natCast_add] at this
    exact this
  obtain ⟨V4, hV4⟩ : ∃ V, V = (((w.alloc (.cells #[ct m.name, .slice ao m.imports.length cap, .slice ad m.decls.length capd] 63)).alloc (.map #[] 0)).alloc (mkO (m.decls.length + far.length))) := ⟨_, rfl⟩
  have hV4H : Hidden (V4 = _) := hV4
  have f4 : Hidden (Fr FN w V4) := by rw [hV4]; exact ((Fr.alloc _ _ _).same (Fr.alloc _ _ _)).same (Fr.alloc _ _ _)
  have s4_ : Hidden (V4.heap.size = w.heap.size + 3) := by rw [hV4]; simp [Hidden]
  have hrow : Hidden (CoW V4 (w.heap.size + 2) (.slice (some ⟨w.heap.size + 2, 0, none⟩) m.decls.length (m.decls.length + far.length)) (List.replicate m.decls.length zC)) := by
    have := made_row ((w.alloc (.cells #[ct m.name, .slice ao m.imports.length cap, .slice ad m.decls.length capd] 63)).alloc (.map #[] 0)) m.decls.length (m.decls.length + far.length) (by omega) (by unfold maxLen; omega)
    rw [hV4]
    simpa [Hidden] using this
  have hset : Hidden (SM V4 (w.heap.size + 1) 0 []) := by
    have := SM.later (SM.new (w.alloc (.cells #[ct m.name, .slice ao m.imports.length cap, .slice ad m.decls.length capd] 63))) (Fr.alloc (fun _ => False) _ (mkO (m.decls.length + far.length)))
    rw [hV4]
    simpa [Hidden] using this
  have hbox : Hidden (V4.heap[w.heap.size]? = some (.cells #[ct m.name, .slice ao m.imports.length cap, .slice ad m.decls.length capd] 63 (0, 0))) := by rw [hV4]; exact (alloc_old _ _ _ (by simp; omega)).trans ((alloc_old _ _ _ (by simp)).trans (alloc_new _ _))
  clear hV4
  have hdH : Hidden (DeL w ad capd m.decls) := hd
  have hfH : Hidden (CoW w B2 (.slice fo far.length fc) far) := hf
  have hbH : Hidden (m.decls.length + far.length ≤ 1048576) := hb
  clear hd hf hi hfl
  go_enter Tryz.func49, Tryz.ntmps49
  go_wp2_with (at_builtin; rw [← (show V4 = _ from hV4H)]; refine wpl_rows rfl _ _ rfl (w.heap.size + 2) (.slice (some ⟨w.heap.size + 2, 0, none⟩) m.decls.length (m.decls.length + far.length)) (List.replicate m.decls.length zC) far (.slice fo far.length fc) B2 rfl hrow rfl ((show CoW w B2 _ far from hfH).keepN f4) (by rw [List.length_replicate]; unfold maxLen; have : m.decls.length + far.length ≤ 1048576 := hbH; omega) (by rw [List.length_replicate]; have : m.decls.length + far.length ≤ 1048576 := hbH; omega) (by have : V4.heap.size = w.heap.size + 3 := s4_; omega) ?_; intro v5 w5 hrow5 f5 _; have g5 : Hidden (Fr FN w w5) := (show Fr FN w V4 from f4).over f5 (fun k hk => by have : w.heap.size + 2 = k := (by simpa [Value.ownBlock] using hk); omega); have set5 : Hidden (SM w5 (w.heap.size + 1) 0 []) := (show SM V4 _ 0 [] from hset).keep f5 (fun hk => by simp [Value.ownBlock] at hk); have box5 := f5.heap hbox (fun hk => by simp [Value.ownBlock] at hk); have c5 : w5.cell? ⟨w.heap.size, 2, none⟩ = some (.slice ad m.decls.length capd) := cell_of_row _ _ 2 _ _ _ box5; have row5 : Hidden (CoW w5 (w.heap.size + 2) v5 (List.replicate m.decls.length zC ++ far)) := hrow5; have sz5 : Hidden (w.heap.size + 3 ≤ w5.heap.size) := (by have := f5.size; have : V4.heap.size = w.heap.size + 3 := s4_; show _ ≤ _; omega); clear hrow5 f5 box5)
  obtain ⟨ka, kc, hv5, hkc1, hkc2, _⟩ := (show CoW w5 _ v5 _ from row5).slice
  rw [show (List.replicate m.decls.length zC ++ far).length = m.decls.length + far.length by simp] at hv5 hkc1
  obtain ⟨L, hLe⟩ : ∃ L, m.decls.length + far.length = L := ⟨_, rfl⟩
  rw [hLe] at hv5 hkc1
  have hLH : Hidden (m.decls.length + far.length = L) := hLe
  clear hLe
  have hkb : Hidden (∀ k, v5.ownBlock = some k → k < w5.heap.size) := fun k hk => ((show CoW w5 _ v5 _ from row5).low k hk).2
  subst hv5
  go_loopg [8, 9, 11, 38] m.decls.length (fun g cv vv fv iv wr => ∃ (i F : Nat) (cs vs : List Con) (seen : List Bs), iv = ci (i : Int) ∧ i ≤ m.decls.length ∧ g = m.decls.length - i ∧ fv = ci (F : Int) ∧ F + cs.length = m.decls.length ∧ cs.length ≤ i ∧ vs.length ≤ i ∧ decGo far (m.decls.drop i) i seen cs vs = decS far m.decls ∧ (∀ c ∈ cs, U64 c.b) ∧ CoW wr (w.heap.size + 2) (.slice ka L kc) (List.replicate F zC ++ (cs.reverse ++ far)) ∧ CoW wr w5.heap.size cv cs ∧ CoW wr w5.heap.size vv vs ∧ (∀ k, cv.ownBlock = some k → vv.ownBlock ≠ some k) ∧ SM wr (w.heap.size + 1) i seen ∧ Fr FN w wr ∧ w5.heap.size ≤ wr.heap.size)
  case atStart => exact ⟨0, m.decls.length, [], [], [], rfl, by omega, rfl, rfl, by simp, by simp, by simp, rfl, by simp, row5, CoW.none _ _, CoW.none _ _, by simp [Value.ownBlock], set5, g5, Nat.le_refl _⟩
  case round =>
    obtain ⟨i, F, cs, vs, seen, rfl, hi, hgk, rfl, hF, hc1, hc2, hgo, hcu, hkn, hcr, hvr, hap, hse, hfr, hsz⟩ := hrel
    have hFH : Hidden (F + cs.length = m.decls.length) := hF
    clear hF
    have hfrH : Hidden (Fr FN w wr) := hfr
    obtain ⟨ca, cc, hv1, _⟩ := hcr.slice
    obtain ⟨va, vc, hv2, _⟩ := hvr.slice
    subst hv1
    subst hv2
    by_cases hil : i < m.decls.length
    · obtain ⟨d, hd⟩ : ∃ d, m.decls[i]? = some d := ⟨m.decls[i], List.getElem?_eq_getElem hil⟩
      obtain ⟨db, doff, pv, ev, bv, rfl, hdi, hdc⟩ : ∃ b off pv ev bv, ad = some ⟨b, off, none⟩ ∧ DeI w d pv ev bv ∧ ∀ (j : Nat) (x : Value), (deC d pv ev bv)[j]? = some x → w.cell? ⟨b, off + i * 7 + j, none⟩ = some x := by
        rcases (show DeL w ad capd m.decls from hdH).2.2 with h0 | ⟨b, off, e, h0⟩
        · rw [h0] at hil; simp at hil
        · obtain ⟨pv, ev, bv, h1, h2⟩ := h0 i d hd
          exact ⟨b, off, pv, ev, bv, e, h1, h2⟩
      have od := om.decls d (List.mem_of_getElem? hd)
      obtain ⟨p1, q1, p2, q2, p3, q3, rfl, rfl, rfl, hdi⟩ := hdi
      have d0 := hfr.cellN (hdc 0 _ rfl)
      have d1 := hfr.cellN (hdc 1 _ rfl)
      have d2 := hfr.cellN (hdc 2 _ rfl)
      have d3 := hfr.cellN (hdc 3 _ rfl)
      have d4 := hfr.cellN (hdc 4 _ rfl)
      have d5 := hfr.cellN (hdc 5 _ rfl)
      have d6 := hfr.cellN (hdc 6 _ rfl)
      simp only [Nat.add_zero] at d0
      have fa := Fr.alloc FN wr (.cells #[ci d.kind, .bool d.ex, ct d.name, ci d.type, .slice p1 d.params.length q1, .slice p2 d.e.len q2, .slice p3 d.body.len q3] 59)
      have hl := (SM.later hse fa).look d.name od.name
      have hdd : m.decls.drop i = d :: m.decls.drop (i + 1) := by
        rw [List.drop_eq_getElem_cons hil]
        rw [List.getElem?_eq_getElem hil] at hd
        rw [Option.some.inj hd]
      rw [hdd] at hgo
      unfold decGo at hgo
      have hseH : Hidden (SM wr (w.heap.size + 1) i seen) := hse
      have hknH : Hidden (CoW wr (w.heap.size + 2) (.slice ka L kc) (List.replicate F zC ++ (cs.reverse ++ far))) := hkn
      have hcrH : Hidden (CoW wr w5.heap.size (.slice ca cs.length cc) cs) := hcr
      have hvrH : Hidden (CoW wr w5.heap.size (.slice va vs.length vc) vs) := hvr
      have hdiH : Hidden (DeI w d (.slice p1 d.params.length q1) (.slice p2 d.e.len q2) (.slice p3 d.body.len q3)) := ⟨p1, q1, p2, q2, p3, q3, rfl, rfl, rfl, hdi⟩
      clear hse hkn hcr hvr hfr hdc hdi hd hdd
      by_cases htw : d.name ∈ seen
      · rw [if_pos htw] at hgo
        rw [decide_eq_true htw] at hl
        go_wp2_with fail
        refine bodyPost_ret (results_tmp4 rfl _ _ _) rfl ?_
        rw [← hgo]
        exact ⟨_, _, rfl, CoW.none _ _, CoW.none _ _, ((show Fr FN w wr from hfrH).same (Fr.alloc _ _ _)).same (Fr.alloc _ _ _)⟩
      · rw [if_neg htw] at hgo
        rw [decide_eq_false htw] at hl
        have fa2 : Fr FN wr ((wr.alloc (.cells #[ci d.kind, .bool d.ex, ct d.name, ci d.type, .slice p1 d.params.length q1, .slice p2 d.e.len q2, .slice p3 d.body.len q3] 59)).alloc (.cells #[] 132)) := (Fr.alloc _ _ _).same (Fr.alloc _ _ _)
        obtain ⟨w6, hput, hse6, f6⟩ := (SM.later hseH fa2).put d.name od.name (by have : m.decls.length + far.length ≤ 1048576 := hbH; omega)
        have hse6H : Hidden (SM w6 (w.heap.size + 1) (i + 1) (d.name :: seen)) := hse6
        have hlt : w.heap.size + 3 ≤ wr.heap.size := by have : w.heap.size + 3 ≤ w5.heap.size := sz5; omega
        have hbx6 := f6.heap ((alloc_old _ (.cells #[] 132 (0, 0)) _ (by simp)).trans (alloc_new wr (.cells #[ci d.kind, .bool d.ex, ct d.name, ci d.type, .slice p1 d.params.length q1, .slice p2 d.e.len q2, .slice p3 d.body.len q3] 59 (0, 0)))) (by omega)
        have hbx6H : Hidden (w6.heap[wr.heap.size]? = some (.cells #[ci d.kind, .bool d.ex, ct d.name, ci d.type, .slice p1 d.params.length q1, .slice p2 d.e.len q2, .slice p3 d.body.len q3] 59 (0, 0))) := hbx6
        obtain ⟨e0, e1, e2, e3, e4, e5, e6⟩ := ex_box hbx6
        have g6 : Fr (fun k => k = w.heap.size + 1) wr w6 := (fa2.mono fun _ _ f => f.elim).same f6
        have g6H : Hidden (Fr (fun k => k = w.heap.size + 1) wr w6) := g6
        have sz6 : wr.heap.size + 2 ≤ w6.heap.size := by have := f6.size; simp at this; omega
        clear hse6 f6 fa2 hbx6 g6
        by_cases hk : d.kind ≠ 1 ∧ d.kind ≠ 2
        · rw [if_pos hk] at hgo
          have hk1 : (d.kind != 1) = true := by simpa using hk.1
          have hk2 : (d.kind != 2) = true := by simpa using hk.2
          go_wp2_with fail
          go_roundg (m.decls.length - (i + 1))
          case measure => omega
          case rel =>
            have g6 : Fr (fun k => k = w.heap.size + 1) wr w6 := g6H
            refine ⟨i + 1, F, cs, vs, d.name :: seen, by go_num, by omega, rfl, rfl, hFH, by omega, by omega, hgo, hcu, (show CoW wr _ _ _ from hknH).keep g6 (fun k hk e => by have := ((show CoW wr _ _ _ from hknH).low k hk).1; omega), (show CoW wr _ _ _ from hcrH).keep g6 (fun k hk e => by have := ((show CoW wr _ _ _ from hcrH).low k hk).1; have : w.heap.size + 3 ≤ w5.heap.size := sz5; omega), (show CoW wr _ _ _ from hvrH).keep g6 (fun k hk e => by have := ((show CoW wr _ _ _ from hvrH).low k hk).1; have : w.heap.size + 3 ≤ w5.heap.size := sz5; omega), hap, hse6H, (show Fr FN w wr from hfrH).over g6 (fun k hk => by omega), by omega⟩
        · rw [if_neg hk] at hgo
          have hk12 : d.kind = 1 ∨ d.kind = 2 := by omega
          have hF : F + cs.length = m.decls.length := hFH
          have hLe : m.decls.length + far.length = L := hLH
          have hL : (List.replicate F zC ++ (cs.reverse ++ far)).length = L := by simp; omega
          have hkn : CoW wr (w.heap.size + 2) (.slice ka L kc) (List.replicate F zC ++ (cs.reverse ++ far)) := hknH
          obtain ⟨kg, rfl⟩ : ∃ kg, ka = some ⟨kg, 0, none⟩ := by
            rcases cow_cur hkn with ⟨h0, _, _⟩ | ⟨g, _, h0, _⟩
            · rw [h0] at hL; simp at hL; omega
            · exact ⟨g, h0⟩
          have hlow := hkn.low kg rfl
          obtain ⟨sa, hsa, hsl⟩ := slice_from_row kg L kc F (by omega)
          obtain ⟨n2, hn2⟩ : ∃ n, (cs.reverse ++ far).length = n := ⟨_, rfl⟩
          have hll : L - F = n2 := by rw [← hn2]; simp; omega
          rw [hll] at hsl
          have kn6 : CoW w6 (w.heap.size + 2) (.slice (some ⟨kg, 0, none⟩) L kc) (List.replicate F zC ++ (cs.reverse ++ far)) := hkn.keep g6H (fun k hk e => by have := (hkn.low k hk).1; omega)
          have hcol := cow_drop kn6 F (by rw [hL]; omega) sa (fun g hg hlt => by cases hg; exact hsa hlt)
          have hdr : (List.replicate F zC ++ (cs.reverse ++ far)).drop F = cs.reverse ++ far := List.drop_left' (by simp)
          rw [hdr] at hcol
          obtain ⟨kc2, hkc2⟩ : ∃ n, kc - F = n := ⟨_, rfl⟩
          rw [hkc2] at hsl hcol
          have hok2 : ∀ c ∈ cs.reverse ++ far, U64 c.b := fun c hc => by
            rcases List.mem_append.1 hc with hc | hc
            · exact hcu c (List.mem_reverse.1 hc)
            · exact hok c hc
          have fw6 : Fr FN w w6 := (show Fr FN w wr from hfrH).over g6H (fun k hk => by omega)
          have kV : ∀ u, Fr FN w6 u → Calls Tryz.prog 80 #[deV d (.slice p1 d.params.length q1) (.slice p2 d.e.len q2) (.slice p3 d.body.len q3), .slice sa n2 kc2] u fun e w' => e = .returned (.tuple #[vv (valAt d (cs.reverse ++ far)).1, ci (valAt d (cs.reverse ++ far)).2]) ∧ Fr FN u w' := fun u hu => by rw [← hn2]; exact vaf_any d _ _ _ (cs.reverse ++ far) hok2 sa _ u od (DeI.keep hdiH (fw6.same hu)) (hcol.keep hu)
          have hvb := valAt_b od (cs.reverse ++ far) hok2
          generalize hR : valAt d (cs.reverse ++ far) = R at kV hgo hvb
          obtain ⟨⟨rt, rb⟩, re⟩ := R
          rcases hk12 with hk1 | hk1
          · rw [hk1] at e0 d0 hl hput hbx6H
            have kV' : ∀ u, Fr FN w6 u → Calls Tryz.prog 80 #[.agg #[ci 1, .bool d.ex, ct d.name, ci d.type, .slice p1 d.params.length q1, .slice p2 d.e.len q2, .slice p3 d.body.len q3], .slice sa n2 kc2] u fun e w' => e = .returned (.tuple #[vv (rt, rb), ci re]) ∧ Fr FN u w' := fun u hu => by have := kV u hu; dsimp only [deV] at this; rw [hk1] at this; exact this
            have fw6H : Hidden (Fr FN w w6) := fw6
            have hgoH : Hidden (_ = decS far m.decls) := hgo
            have hvbH : Hidden (U64 rb) := hvb
            have hkn6H : Hidden (CoW w6 (w.heap.size + 2) (.slice (some ⟨kg, 0, none⟩) L kc) (List.replicate F zC ++ (cs.reverse ++ far))) := kn6
            clear kV hcol kn6 hdr hok2 hkn hL hll hLe hF hn2 hkc2 hsa hlow fw6 hgo hvb
            go_wp2_with fail
            clear hmm hmk d0 d1 d2 d3 d4 d5 d6 hl hput hfrH hset hbox hrow f4 g5 set5
            go_cut [17, 18] (fun pv ev wx => ev = ci re ∧ ∃ g, pv = .pointer (some ⟨g, 0, none⟩) ∧ wx.heap[g]? = some (.cells #[ci rt, .int .u64 rb] 52 (0, 0)) ∧ w6.heap.size ≤ g ∧ Fr FN w6 wx)
            case first =>
              have nn6 := World.new_ne w6 _ e0
              go_region_held3 (fun w' => w'.cell? ⟨wr.heap.size, 0, none⟩ = some (ci 1) ∧ w'.cell? ⟨wr.heap.size, 1, none⟩ = some (.bool d.ex) ∧ w'.cell? ⟨wr.heap.size, 2, none⟩ = some (ct d.name) ∧ w'.cell? ⟨wr.heap.size, 3, none⟩ = some (ci d.type) ∧ w'.cell? ⟨wr.heap.size, 4, none⟩ = some (.slice p1 d.params.length q1) ∧ w'.cell? ⟨wr.heap.size, 5, none⟩ = some (.slice p2 d.e.len q2) ∧ w'.cell? ⟨wr.heap.size, 6, none⟩ = some (.slice p3 d.body.len q3)) (first | (refine ⟨by with_reducible assumption, by with_reducible assumption, by with_reducible assumption, by with_reducible assumption, by with_reducible assumption, by with_reducible assumption, by with_reducible assumption⟩) | go_keep) (first
                | (go_at_call 80; (with_reducible refine Calls.mono (kV' w6.drew (Fr.drew _ _)) ?_); rintro e w7 ⟨rfl, f7⟩; have f67 : Fr FN w6 w7 := (Fr.drew _ _).same f7; have r0 := f67.cellN e0; have r1 := f67.cellN e1; have r2 := f67.cellN e2; have r3 := f67.cellN e3; have r4 := f67.cellN e4; have r5 := f67.cellN e5; have r6 := f67.cellN e6; have nn7 := World.new_ne w7 _ r0)
                | (go_at_call 80; (with_reducible refine Calls.mono (kV' ((w6.alloc (.cells #[ci 0, .int .u64 0] 52 (0, 0))).drew) ((Fr.alloc _ _ _).same (Fr.drew _ _))) ?_); rintro e w7 ⟨rfl, f7⟩; have f67 : Fr FN w6 w7 := ((Fr.alloc _ _ _).same (Fr.drew _ _)).same f7; have hbz : w7.heap[w6.heap.size]? = some (.cells #[ci 0, .int .u64 0] 52 (0, 0)) := ((Fr.drew FN _).same f7).heap (alloc_new w6 _) (fun f => f); obtain ⟨bz0, bz1, bz2, bz3⟩ := box2 hbz; have r0 := f67.cellN e0; have r1 := f67.cellN e1; have r2 := f67.cellN e2; have r3 := f67.cellN e3; have r4 := f67.cellN e4; have r5 := f67.cellN e5; have r6 := f67.cellN e6))
              all_goals go_wp2_with fail
              all_goals go_meet
              all_goals refine ⟨rfl, ?_⟩
              all_goals first
                | exact ⟨_, rfl, alloc_new _ _, f67.size, f67.same (Fr.alloc _ _ _)⟩
                | exact ⟨_, rfl, two_put hbz _ _, Nat.le_refl _, f67.over (two_at w7 _ _ _) (fun b e => by subst e; exact Nat.le_refl _)⟩
            case rest =>
              obtain ⟨rfl, g, rfl, hg, hgb, fx⟩ := hcut
              obtain ⟨x0, x1, x2, x3, x4, x5, x6⟩ := ex_box (fx.heap (show w6.heap[wr.heap.size]? = _ from hbx6H) (fun f => f))
              obtain ⟨y0, y1, _, _⟩ := box2 hg
              have fwc : Hidden (Fr FN w wc) := (show Fr FN w w6 from fw6H).same fx
              have g6 : Fr (fun k => k = w.heap.size + 1) wr w6 := g6H
              have gxc : Fr (fun k => k = w.heap.size + 1) wr wc := g6.same (fx.mono fun _ _ f => f.elim)
              have hs5 : w.heap.size + 3 ≤ w5.heap.size := sz5
              have sec : SM wc (w.heap.size + 1) (i + 1) (d.name :: seen) := (show SM w6 _ _ _ from hse6H).later fx
              have crc : CoW wc w5.heap.size (.slice ca cs.length cc) cs := (show CoW wr _ _ _ from hcrH).keep gxc (fun k hk e => by have := ((show CoW wr _ _ _ from hcrH).low k hk).1; omega)
              have vrc : CoW wc w5.heap.size (.slice va vs.length vc) vs := (show CoW wr _ _ _ from hvrH).keep gxc (fun k hk e => by have := ((show CoW wr _ _ _ from hvrH).low k hk).1; omega)
              have knc : CoW wc (w.heap.size + 2) (.slice (some ⟨kg, 0, none⟩) L kc) (List.replicate F zC ++ (cs.reverse ++ far)) := (show CoW w6 _ _ _ from hkn6H).keepN fx
              have szc : w6.heap.size ≤ wc.heap.size := fx.size
              have secH : Hidden (SM wc (w.heap.size + 1) (i + 1) (d.name :: seen)) := sec
              have crcH : Hidden (CoW wc w5.heap.size (.slice ca cs.length cc) cs) := crc
              have vrcH : Hidden (CoW wc w5.heap.size (.slice va vs.length vc) vs) := vrc
              have kncH : Hidden (CoW wc (w.heap.size + 2) (.slice (some ⟨kg, 0, none⟩) L kc) (List.replicate F zC ++ (cs.reverse ++ far))) := knc
              have capR : ∀ k, (Value.slice ca cs.length cc).ownBlock = some k → w5.heap.size ≤ k ∧ k < wc.heap.size := fun k hk => crc.low k hk
              have vapR : ∀ k, (Value.slice va vs.length vc).ownBlock = some k → w5.heap.size ≤ k ∧ k < wc.heap.size := fun k hk => vrc.low k hk
              have capH : Hidden (∀ k, (Value.slice ca cs.length cc).ownBlock = some k → w5.heap.size ≤ k ∧ k < wc.heap.size) := capR
              have vapH : Hidden (∀ k, (Value.slice va vs.length vc).ownBlock = some k → w5.heap.size ≤ k ∧ k < wc.heap.size) := vapR
              have hapH : Hidden (∀ k, (Value.slice ca cs.length cc).ownBlock = some k → (Value.slice va vs.length vc).ownBlock ≠ some k) := hap
              have hkgb : Hidden (kg < w5.heap.size) := (show ∀ k, _ → k < w5.heap.size from hkb) kg rfl
              have hszH : Hidden (w5.heap.size ≤ wc.heap.size) := (by omega : w5.heap.size ≤ wc.heap.size)
              have hcuH : Hidden (∀ c ∈ cs, U64 c.b) := hcu
              have hbn : m.decls.length + far.length ≤ 1048576 := hbH
              clear hap sec crc vrc knc capR vapR fx hg gxc g6 hgb hcu
              by_cases hre : re = 0
              · subst hre
                have hgo2 : (if 1 = (2 : Int) then decGo far (m.decls.drop (i + 1)) (i + 1) (d.name :: seen) cs (vs ++ [⟨[], d.name, rt, rb⟩]) else decGo far (m.decls.drop (i + 1)) (i + 1) (d.name :: seen) (cs ++ [⟨[], d.name, rt, rb⟩]) vs) = decS far m.decls := by
                  have := (show _ = decS far m.decls from hgoH)
                  rw [if_neg (by simp), hk1] at this
                  exact this
                rw [if_neg (by decide)] at hgo2
                have hgo2H : Hidden (_ = decS far m.decls) := hgo2
                clear hgo2 hgoH
                obtain ⟨W9, hW9⟩ : ∃ W, W = (wc.alloc (coO ⟨[], d.name, rt, rb⟩)).alloc (coO ⟨[], d.name, rt, rb⟩) := ⟨_, rfl⟩
                have f9 : Fr FN wc W9 := by rw [hW9]; exact (Fr.alloc _ _ _).same (Fr.alloc _ _ _)
                have hnew : Hidden (W9.heap[wc.heap.size + 1]? = some (coO ⟨[], d.name, rt, rb⟩)) := by rw [hW9]; exact alloc_at _ _ _ (by simp)
                have hold : Hidden (W9.heap[wc.heap.size]? = some (coO ⟨[], d.name, rt, rb⟩)) := by rw [hW9]; exact (alloc_old _ _ _ (by simp)).trans (alloc_new _ _)
                have hsz9 : Hidden (W9.heap.size = wc.heap.size + 2) := by rw [hW9]; simp [Hidden]
                have f9H : Hidden (Fr FN wc W9) := f9
                have hW9H : Hidden (W9 = _) := hW9
                clear hW9 f9
                have x0' := (Fr.alloc FN wc (coO ⟨[], d.name, rt, rb⟩)).cellN x0
                have hrow9 : Hidden (CoW W9 w5.heap.size (.slice ca cs.length cc) cs) := (show CoW wc _ _ cs from crcH).keepN f9H
                obtain ⟨F1, rfl⟩ : ∃ F1, F = F1 + 1 := ⟨F - 1, by have : F + cs.length = m.decls.length := hFH; omega⟩
                have hF1 : F1 + 1 + cs.length = m.decls.length := hFH
                have hLL : F1 < L := by have : m.decls.length + far.length = L := hLH; omega
                have hF2 : F1 ≤ 1048576 := by omega
                clear hF1
                go_wp2_with (at_builtin; rw [← (show W9 = _ from hW9H)]; refine wpl_row1 rfl _ _ rfl w5.heap.size (.slice ca cs.length cc) cs ⟨[], d.name, rt, rb⟩ (wc.heap.size + 1) rfl hrow9 rfl hnew ?_ ?_ ?_ ?_; (focus (simp only [maxLen]; omega)); (focus (omega)); (focus (have : W9.heap.size = wc.heap.size + 2 := hsz9; have : w5.heap.size ≤ wc.heap.size := hszH; omega)); intro v4 w4 hr4 f4 hown4; have cap' : ∀ k, (Value.slice ca cs.length cc).ownBlock = some k → w5.heap.size ≤ k ∧ k < wc.heap.size := capH; have kgb : kg < w5.heap.size := hkgb; have kn4 : CoW w4 (w.heap.size + 2) (.slice (some ⟨kg, 0, none⟩) L kc) (List.replicate (F1 + 1) zC ++ (cs.reverse ++ far)) := ((show CoW wc _ _ _ from kncH).keepN f9H).keep f4 (fun k hk e => (by have hh : kg = k := (by simpa [Value.ownBlock] using hk); have := (cap' _ e).1; omega)); have bx4 : w4.heap[wc.heap.size]? = some (coO ⟨[], d.name, rt, rb⟩) := f4.heap hold (fun e => (by have := (cap' _ e).2; omega)); obtain ⟨o0, o1, o2, o3⟩ := con_box bx4; obtain ⟨z0, z1, z2, z3, q0, q1, q2, q3⟩ := zero_at kn4; have kn4H : Hidden (CoW w4 (w.heap.size + 2) (.slice (some ⟨kg, 0, none⟩) L kc) (List.replicate (F1 + 1) zC ++ (cs.reverse ++ far))) := kn4; have f4H : Hidden (Fr (fun b => (Value.slice ca cs.length cc).ownBlock = some b) W9 w4) := f4; have hr4H : Hidden (CoW w4 w5.heap.size v4 (cs ++ [⟨[], d.name, rt, rb⟩])) := hr4; have hown4H : Hidden (v4.ownBlock = (Value.slice ca cs.length cc).ownBlock ∨ v4.ownBlock = some W9.heap.size) := hown4; clear bx4 kn4 f4 hr4 hown4 cap' kgb)
                have h9 : W9.heap.size = wc.heap.size + 2 := hsz9
                have h5 : w5.heap.size ≤ wc.heap.size := hszH
                have vap : ∀ k, (Value.slice va vs.length vc).ownBlock = some k → w5.heap.size ≤ k ∧ k < wc.heap.size := vapH
                have cap' : ∀ k, (Value.slice ca cs.length cc).ownBlock = some k → w5.heap.size ≤ k ∧ k < wc.heap.size := capH
                have kgb : kg < w5.heap.size := hkgb
                have f4 : Fr (fun b => (Value.slice ca cs.length cc).ownBlock = some b) W9 w4 := f4H
                have hr4 : CoW w4 w5.heap.size v4 (cs ++ [⟨[], d.name, rt, rb⟩]) := hr4H
                have fs := s4_fr w4 kg (F1 * 4) ⟨[], d.name, rt, rb⟩
                have kn5 := cow_set (show CoW w4 (w.heap.size + 2) _ (List.replicate (F1 + 1) zC ++ (cs.reverse ++ far)) from kn4H) (i := F1) (by simp; omega) ⟨[], d.name, rt, rb⟩
                rw [known_set] at kn5
                have hFF : F1 + 1 + cs.length = m.decls.length := hFH
                have v4b : ∀ k, v4.ownBlock = some k → w5.heap.size ≤ k := fun k hk => (hr4.low k hk).1
                go_roundg (m.decls.length - (i + 1))
                case measure => omega
                case rel =>
                  refine ⟨i + 1, F1, cs ++ [(⟨[], d.name, rt, rb⟩ : Con)], vs, d.name :: seen, by go_num, by omega, rfl, rfl, by simp; omega, by simp; omega, by omega, (show _ = decS far m.decls from hgo2H), ?_, kn5, hr4.keep fs (fun k hk e => by have := v4b k hk; omega), (((show CoW wc _ _ vs from vrcH).keepN f9H).keep f4 (fun k hk e => (show ∀ k, _ → _ ≠ some k from hapH) k e hk)).keep fs (fun k hk e => by have := (vap k hk).1; omega), fun k hk e => ?_, (((show SM wc _ _ _ from secH).later f9H).keep f4 (fun e => by have := (cap' _ e).1; omega)).keep fs (fun e => by have e : w.heap.size + 1 = kg := e; have := (show CoW w4 (w.heap.size + 2) _ _ from kn4H).low kg rfl; omega), (((show Fr FN w wc from fwc).same f9H).over f4 (fun k e => by have := (cap' _ e).1; omega)).over fs (fun k e => by have e : k = kg := e; have := (show CoW w4 (w.heap.size + 2) _ _ from kn4H).low kg rfl; omega), Nat.le_trans (by have := f4.size; omega : w5.heap.size ≤ w4.heap.size) fs.size⟩
                  · intro c hc
                    rcases List.mem_append.1 hc with hc | hc
                    · exact (show ∀ c ∈ cs, U64 c.b from hcuH) c hc
                    · rw [List.mem_singleton.1 hc]; exact hvbH
                  · rcases (show v4.ownBlock = _ ∨ v4.ownBlock = some W9.heap.size from hown4H) with q | q
                    · rw [q] at hk; exact (show ∀ k, _ → _ ≠ some k from hapH) k hk e
                    · rw [q] at hk
                      have := (vap k e).2
                      have : W9.heap.size = k := by simpa using hk
                      omega

              · have hgo2 : ([], [], (i : Int), re) = decS far m.decls := by
                  have := (show _ = decS far m.decls from hgoH)
                  rw [if_pos (by simpa using hre)] at this
                  exact this
                have b1 : (re != 0) = true := by simpa using hre
                clear hgoH hre
                go_wp2_with fail
                refine bodyPost_ret (results_tmp4 rfl _ _ _) rfl ?_
                rw [← hgo2]
                exact ⟨_, _, rfl, CoW.none _ _, CoW.none _ _, fwc⟩
          · rw [hk1] at e0 d0 hl hput hbx6H
            have kV' : ∀ u, Fr FN w6 u → Calls Tryz.prog 80 #[.agg #[ci 2, .bool d.ex, ct d.name, ci d.type, .slice p1 d.params.length q1, .slice p2 d.e.len q2, .slice p3 d.body.len q3], .slice sa n2 kc2] u fun e w' => e = .returned (.tuple #[vv (rt, rb), ci re]) ∧ Fr FN u w' := fun u hu => by have := kV u hu; dsimp only [deV] at this; rw [hk1] at this; exact this
            have fw6H : Hidden (Fr FN w w6) := fw6
            have hgoH : Hidden (_ = decS far m.decls) := hgo
            have hvbH : Hidden (U64 rb) := hvb
            have hkn6H : Hidden (CoW w6 (w.heap.size + 2) (.slice (some ⟨kg, 0, none⟩) L kc) (List.replicate F zC ++ (cs.reverse ++ far))) := kn6
            clear kV hcol kn6 hdr hok2 hkn hL hll hLe hF hn2 hkc2 hsa hlow fw6 hgo hvb
            go_wp2_with fail
            clear hmm hmk d0 d1 d2 d3 d4 d5 d6 hl hput hfrH hset hbox hrow f4 g5 set5
            go_cut [17, 18] (fun pv ev wx => ev = ci re ∧ ∃ g, pv = .pointer (some ⟨g, 0, none⟩) ∧ wx.heap[g]? = some (.cells #[ci rt, .int .u64 rb] 52 (0, 0)) ∧ w6.heap.size ≤ g ∧ Fr FN w6 wx)
            case first =>
              have nn6 := World.new_ne w6 _ e0
              go_region_held3 (fun w' => w'.cell? ⟨wr.heap.size, 0, none⟩ = some (ci 2) ∧ w'.cell? ⟨wr.heap.size, 1, none⟩ = some (.bool d.ex) ∧ w'.cell? ⟨wr.heap.size, 2, none⟩ = some (ct d.name) ∧ w'.cell? ⟨wr.heap.size, 3, none⟩ = some (ci d.type) ∧ w'.cell? ⟨wr.heap.size, 4, none⟩ = some (.slice p1 d.params.length q1) ∧ w'.cell? ⟨wr.heap.size, 5, none⟩ = some (.slice p2 d.e.len q2) ∧ w'.cell? ⟨wr.heap.size, 6, none⟩ = some (.slice p3 d.body.len q3)) (first | (refine ⟨by with_reducible assumption, by with_reducible assumption, by with_reducible assumption, by with_reducible assumption, by with_reducible assumption, by with_reducible assumption, by with_reducible assumption⟩) | go_keep) (first
                | (go_at_call 80; (with_reducible refine Calls.mono (kV' w6.drew (Fr.drew _ _)) ?_); rintro e w7 ⟨rfl, f7⟩; have f67 : Fr FN w6 w7 := (Fr.drew _ _).same f7; have r0 := f67.cellN e0; have r1 := f67.cellN e1; have r2 := f67.cellN e2; have r3 := f67.cellN e3; have r4 := f67.cellN e4; have r5 := f67.cellN e5; have r6 := f67.cellN e6; have nn7 := World.new_ne w7 _ r0)
                | (go_at_call 80; (with_reducible refine Calls.mono (kV' ((w6.alloc (.cells #[ci 0, .int .u64 0] 52 (0, 0))).drew) ((Fr.alloc _ _ _).same (Fr.drew _ _))) ?_); rintro e w7 ⟨rfl, f7⟩; have f67 : Fr FN w6 w7 := ((Fr.alloc _ _ _).same (Fr.drew _ _)).same f7; have hbz : w7.heap[w6.heap.size]? = some (.cells #[ci 0, .int .u64 0] 52 (0, 0)) := ((Fr.drew FN _).same f7).heap (alloc_new w6 _) (fun f => f); obtain ⟨bz0, bz1, bz2, bz3⟩ := box2 hbz; have r0 := f67.cellN e0; have r1 := f67.cellN e1; have r2 := f67.cellN e2; have r3 := f67.cellN e3; have r4 := f67.cellN e4; have r5 := f67.cellN e5; have r6 := f67.cellN e6))
              all_goals go_wp2_with fail
              all_goals go_meet
              all_goals refine ⟨rfl, ?_⟩
              all_goals first
                | exact ⟨_, rfl, alloc_new _ _, f67.size, f67.same (Fr.alloc _ _ _)⟩
                | exact ⟨_, rfl, two_put hbz _ _, Nat.le_refl _, f67.over (two_at w7 _ _ _) (fun b e => by subst e; exact Nat.le_refl _)⟩
            case rest =>
              obtain ⟨rfl, g, rfl, hg, hgb, fx⟩ := hcut
              obtain ⟨x0, x1, x2, x3, x4, x5, x6⟩ := ex_box (fx.heap (show w6.heap[wr.heap.size]? = _ from hbx6H) (fun f => f))
              obtain ⟨y0, y1, _, _⟩ := box2 hg
              have fwc : Hidden (Fr FN w wc) := (show Fr FN w w6 from fw6H).same fx
              have g6 : Fr (fun k => k = w.heap.size + 1) wr w6 := g6H
              have gxc : Fr (fun k => k = w.heap.size + 1) wr wc := g6.same (fx.mono fun _ _ f => f.elim)
              have hs5 : w.heap.size + 3 ≤ w5.heap.size := sz5
              have sec : SM wc (w.heap.size + 1) (i + 1) (d.name :: seen) := (show SM w6 _ _ _ from hse6H).later fx
              have crc : CoW wc w5.heap.size (.slice ca cs.length cc) cs := (show CoW wr _ _ _ from hcrH).keep gxc (fun k hk e => by have := ((show CoW wr _ _ _ from hcrH).low k hk).1; omega)
              have vrc : CoW wc w5.heap.size (.slice va vs.length vc) vs := (show CoW wr _ _ _ from hvrH).keep gxc (fun k hk e => by have := ((show CoW wr _ _ _ from hvrH).low k hk).1; omega)
              have knc : CoW wc (w.heap.size + 2) (.slice (some ⟨kg, 0, none⟩) L kc) (List.replicate F zC ++ (cs.reverse ++ far)) := (show CoW w6 _ _ _ from hkn6H).keepN fx
              have szc : w6.heap.size ≤ wc.heap.size := fx.size
              have secH : Hidden (SM wc (w.heap.size + 1) (i + 1) (d.name :: seen)) := sec
              have crcH : Hidden (CoW wc w5.heap.size (.slice ca cs.length cc) cs) := crc
              have vrcH : Hidden (CoW wc w5.heap.size (.slice va vs.length vc) vs) := vrc
              have kncH : Hidden (CoW wc (w.heap.size + 2) (.slice (some ⟨kg, 0, none⟩) L kc) (List.replicate F zC ++ (cs.reverse ++ far))) := knc
              have capR : ∀ k, (Value.slice ca cs.length cc).ownBlock = some k → w5.heap.size ≤ k ∧ k < wc.heap.size := fun k hk => crc.low k hk
              have vapR : ∀ k, (Value.slice va vs.length vc).ownBlock = some k → w5.heap.size ≤ k ∧ k < wc.heap.size := fun k hk => vrc.low k hk
              have capH : Hidden (∀ k, (Value.slice ca cs.length cc).ownBlock = some k → w5.heap.size ≤ k ∧ k < wc.heap.size) := capR
              have vapH : Hidden (∀ k, (Value.slice va vs.length vc).ownBlock = some k → w5.heap.size ≤ k ∧ k < wc.heap.size) := vapR
              have hapH : Hidden (∀ k, (Value.slice ca cs.length cc).ownBlock = some k → (Value.slice va vs.length vc).ownBlock ≠ some k) := hap
              have hkgb : Hidden (kg < w5.heap.size) := (show ∀ k, _ → k < w5.heap.size from hkb) kg rfl
              have hszH : Hidden (w5.heap.size ≤ wc.heap.size) := (by omega : w5.heap.size ≤ wc.heap.size)
              have hcuH : Hidden (∀ c ∈ cs, U64 c.b) := hcu
              have hbn : m.decls.length + far.length ≤ 1048576 := hbH
              clear hap sec crc vrc knc capR vapR fx hg gxc g6 hgb hcu
              by_cases hre : re = 0
              · subst hre
                have hgo2 : (if 2 = (2 : Int) then decGo far (m.decls.drop (i + 1)) (i + 1) (d.name :: seen) cs (vs ++ [⟨[], d.name, rt, rb⟩]) else decGo far (m.decls.drop (i + 1)) (i + 1) (d.name :: seen) (cs ++ [⟨[], d.name, rt, rb⟩]) vs) = decS far m.decls := by
                  have := (show _ = decS far m.decls from hgoH)
                  rw [if_neg (by simp), hk1] at this
                  exact this
                rw [if_pos rfl] at hgo2
                have hgo2H : Hidden (_ = decS far m.decls) := hgo2
                clear hgo2 hgoH
                obtain ⟨W9, hW9⟩ : ∃ W, W = (wc.alloc (coO ⟨[], d.name, rt, rb⟩)).alloc (coO ⟨[], d.name, rt, rb⟩) := ⟨_, rfl⟩
                have f9 : Fr FN wc W9 := by rw [hW9]; exact (Fr.alloc _ _ _).same (Fr.alloc _ _ _)
                have hnew : Hidden (W9.heap[wc.heap.size + 1]? = some (coO ⟨[], d.name, rt, rb⟩)) := by rw [hW9]; exact alloc_at _ _ _ (by simp)
                have hold : Hidden (W9.heap[wc.heap.size]? = some (coO ⟨[], d.name, rt, rb⟩)) := by rw [hW9]; exact (alloc_old _ _ _ (by simp)).trans (alloc_new _ _)
                have hsz9 : Hidden (W9.heap.size = wc.heap.size + 2) := by rw [hW9]; simp [Hidden]
                have f9H : Hidden (Fr FN wc W9) := f9
                have hW9H : Hidden (W9 = _) := hW9
                clear hW9 f9
                have x0' := (Fr.alloc FN wc (coO ⟨[], d.name, rt, rb⟩)).cellN x0
                have hrow9 : Hidden (CoW W9 w5.heap.size (.slice va vs.length vc) vs) := (show CoW wc _ _ vs from vrcH).keepN f9H
                go_wp2_with (at_builtin; rw [← (show W9 = _ from hW9H)]; refine wpl_row1 rfl _ _ rfl w5.heap.size (.slice va vs.length vc) vs ⟨[], d.name, rt, rb⟩ (wc.heap.size + 1) rfl hrow9 rfl hnew ?_ ?_ ?_ ?_; (focus (simp only [maxLen]; omega)); (focus (omega)); (focus (have : W9.heap.size = wc.heap.size + 2 := hsz9; have : w5.heap.size ≤ wc.heap.size := hszH; omega)); intro v4 w4 hr4 f4 hown4)
                have h9 : W9.heap.size = wc.heap.size + 2 := hsz9
                have h5 : w5.heap.size ≤ wc.heap.size := hszH
                have vap : ∀ k, (Value.slice va vs.length vc).ownBlock = some k → w5.heap.size ≤ k ∧ k < wc.heap.size := vapH
                have cap' : ∀ k, (Value.slice ca cs.length cc).ownBlock = some k → w5.heap.size ≤ k ∧ k < wc.heap.size := capH
                have kgb : kg < w5.heap.size := hkgb
                go_roundg (m.decls.length - (i + 1))
                case measure => omega
                case rel =>
                  refine ⟨i + 1, F, cs, vs ++ [(⟨[], d.name, rt, rb⟩ : Con)], d.name :: seen, by go_num, by omega, rfl, rfl, hFH, by omega, by simp; omega, (show _ = decS far m.decls from hgo2H), hcuH, ((show CoW wc _ _ _ from kncH).keepN f9H).keep f4 (fun k hk e => ?_), ((show CoW wc _ _ cs from crcH).keepN f9H).keep f4 (fun k hk e => (show ∀ k, _ → _ ≠ some k from hapH) k hk e), hr4, fun k hk e => ?_, ((show SM wc _ _ _ from secH).later f9H).keep f4 (fun e => by have := (vap _ e).1; omega), ((show Fr FN w wc from fwc).same f9H).over f4 (fun k e => by have := (vap _ e).1; omega), by have := f4.size; omega⟩
                  · have : kg = k := by simpa [Value.ownBlock] using hk
                    have := (vap _ e).1
                    omega
                  · rcases hown4 with q | q
                    · rw [q] at e; exact (show ∀ k, _ → _ ≠ some k from hapH) k hk e
                    · rw [q] at e
                      have := (cap' k hk).2
                      have : W9.heap.size = k := by simpa using e
                      omega

              · have hgo2 : ([], [], (i : Int), re) = decS far m.decls := by
                  have := (show _ = decS far m.decls from hgoH)
                  rw [if_pos (by simpa using hre)] at this
                  exact this
                have b1 : (re != 0) = true := by simpa using hre
                clear hgoH hre
                go_wp2_with fail
                refine bodyPost_ret (results_tmp4 rfl _ _ _) rfl ?_
                rw [← hgo2]
                exact ⟨_, _, rfl, CoW.none _ _, CoW.none _ _, fwc⟩
    · have hie : i = m.decls.length := by omega
      subst hie
      rw [List.drop_length] at hgo
      unfold decGo at hgo
      go_wp2_with fail
      refine bodyPost_ret (results_tmp4 rfl _ _ _) rfl ?_
      rw [← hgo]
      exact ⟨_, _, rfl, cow_base hcr (by have : w.heap.size + 3 ≤ w5.heap.size := sz5; omega), cow_base hvr (by have : w.heap.size + 3 ≤ w5.heap.size := sz5; omega), hfrH⟩
end Go.Proofs.YtakkiipkmogagaaGreat.Fo
