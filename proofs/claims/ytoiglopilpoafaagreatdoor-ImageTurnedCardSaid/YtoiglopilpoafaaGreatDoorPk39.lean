/- Texts of ours, in one. -/
import Derived.Test.YtoiglopilpoafaaGreatDoorPk38
import Derived.Test.YtoiglopilpoafaaGreatDoorPk36
import Derived.Test.YtoiglopilpoafaaGreatDoorPk24
import Derived.Test.YtoiglopilpoafaaGreatDoorPk31
import Derived.Test.YtoiglopilpoafaaGreatDoorPk28
import Derived.Deep.RegionHeld3
import Derived.Laws.Rows
import Derived.Laws.Tables
import Derived.Test.YtoiglopilpoafaaGreatDoorPk5
import Derived.Orders
namespace Go.Proofs.YtoiglopilpoafaaGreatDoor.Cd
open Go.RowKit Ty
set_option linter.unusedSimpArgs false
set_option linter.unusedVariables false

theorem two_of {n j : Nat} (h : j < n * 2) : ∃ i, i < n ∧ (j = i * 2 ∨ j = i * 2 + 1) := ⟨j / 2, by omega, by omega⟩
/-- The cells of open tries. -/
theorem TrB.cells {w : World} {B : Nat} {to' : Option Addr} {tc : Nat} {tr : List (Int × List Int)} (h : TrB w B to' tc tr) : ∃ news : List Value, news.length = tr.length * 2 ∧ (to' = none → tr.length = 0 ∧ tc = 0) ∧ (∀ ad, to' = some ad → ∀ (j : Nat) (u : Value), news[j]? = some u → w.cell? (ad.add j) = some u) ∧ (∀ u ∈ news, u.oneCell' = true) ∧
    ∀ (i : Nat) (x : Int × List Int), tr[i]? = some x → ∃ ap cp, InB w B ap cp x.2 ∧ news[i * 2]? = some (ci x.1) ∧ news[i * 2 + 1]? = some (.slice ap x.2.length cp) := by
  obtain ⟨h1, h2, h3, h5, h4⟩ := h
  have hn : to' = none → tr.length = 0 ∧ tc = 0 := fun e => ⟨by have := h3 e; omega, h3 e⟩
  rcases h4 with rfl | ⟨b, off, rfl, h4⟩
  · exact ⟨[], by simp, hn, fun _ _ j u hu => by simp at hu, fun u hu => by simp at hu, fun i x hx => by simp at hx⟩
  · have key : ∀ j, j < tr.length * 2 → ∃ u, w.cell? ⟨b, off + j, none⟩ = some u ∧ u.oneCell' = true := by
      intro j hj
      obtain ⟨i, hi, e⟩ := two_of hj
      obtain ⟨ap, cp, q1, q2, q3⟩ := h4 i _ (List.getElem?_eq_getElem hi)
      rcases e with rfl | rfl
      · exact ⟨_, q2, rfl⟩
      · exact ⟨_, q3, rfl⟩
    have at' : ∀ j, j < tr.length * 2 → ((List.range (tr.length * 2)).map (fun j => (w.cell? ⟨b, off + j, none⟩).getD undef))[j]? = w.cell? ⟨b, off + j, none⟩ := by
      intro j hj
      obtain ⟨u, hu, _⟩ := key j hj
      rw [List.getElem?_map, List.getElem?_range hj, Option.map_some, hu]
      rfl
    refine ⟨(List.range (tr.length * 2)).map (fun j => (w.cell? ⟨b, off + j, none⟩).getD undef), by simp, hn, fun ad e j u hu => ?_, fun u hu => ?_, fun i x hx => ?_⟩
    · obtain rfl := Option.some.inj e
      have hj : j < tr.length * 2 := by have := (List.getElem?_eq_some_iff.1 hu).1; simpa using this
      rw [at' j hj] at hu
      rw [Addr.add_lit]
      exact hu
    · obtain ⟨j, hj, rfl⟩ := List.mem_map.1 hu
      obtain ⟨u, hu, h1⟩ := key j (List.mem_range.1 hj)
      rw [hu]
      exact h1
    · have hi := (List.getElem?_eq_some_iff.1 hx).1
      obtain ⟨ap, cp, q1, q2, q3⟩ := h4 i x hx
      exact ⟨ap, cp, q1, by rw [at' _ (by omega)]; exact q2, by rw [at' _ (by omega), ← Nat.add_assoc]; exact q3⟩
end Go.Proofs.YtoiglopilpoafaaGreatDoor.Cd

namespace Go.Proofs.YtoiglopilpoafaaGreatDoor.Cd
open Go.RowKit Ty
set_option linter.unusedSimpArgs false
set_option linter.unusedVariables false

/-- No cell of a box is an int. -/
def NoInt (cs : Array Value) : Prop := ∀ (i : Nat) (x : Int), cs[i]? ≠ some (ci x)
theorem InB.box {w w' : World} {B g : Nat} {ao : Option Addr} {cap : Nat} {l : List Int} {cs : Array Value} {t : TypeId} (h : InB w B ao cap l) (hg : w.heap[g]? = some (.cells cs t (0, 0))) (hno : NoInt cs) (f : Fr (fun k => k = g) w w') : InB w' B ao cap l := by
  obtain ⟨⟨h1, h2, h3, h4⟩, h5⟩ := h
  refine ⟨⟨h1, h2, h3, ?_⟩, h5⟩
  rcases h4 with h4 | ⟨b, off, rfl, hc⟩
  · exact Or.inl h4
  · refine Or.inr ⟨b, off, rfl, fun i x hx => f.cell (hc i x hx) (fun e => ?_)⟩
    have e : b = g := e
    subst e
    have := hc i x hx
    rw [cell_of_row w b _ cs t (0, 0) hg] at this
    exact hno _ _ this
theorem TrB.box {w w' : World} {B g : Nat} {ao : Option Addr} {cap : Nat} {l : List (Int × List Int)} {cs : Array Value} {t : TypeId} (h : TrB w B ao cap l) (hg : w.heap[g]? = some (.cells cs t (0, 0))) (hno : NoInt cs) (f : Fr (fun k => k = g) w w') : TrB w' B ao cap l := by
  obtain ⟨h1, h2, h3, h5, h4⟩ := h
  refine ⟨h1, h2, h3, h5, ?_⟩
  rcases h4 with h4 | ⟨b, off, rfl, hc⟩
  · exact Or.inl h4
  · refine Or.inr ⟨b, off, rfl, fun i x hx => ?_⟩
    obtain ⟨ap, cp, q1, q2, q3⟩ := hc i x hx
    have hne : ¬ b = g := by
      intro e
      subst e
      rw [cell_of_row w b _ cs t (0, 0) hg] at q2
      exact hno _ _ q2
    exact ⟨ap, cp, q1.box hg hno f, f.cell q2 hne, f.cell q3 hne⟩
theorem ShB.box {w w' : World} {B g : Nat} {v : Value} {s : Sp} {cs : Array Value} {t : TypeId} (h : ShB w B v s) (hg : w.heap[g]? = some (.cells cs t (0, 0))) (hno : NoInt cs) (f : Fr (fun k => k = g) w w') : ShB w' B v s := by
  obtain ⟨so, sc, to', tc, e, h1, h2⟩ := h
  exact ⟨so, sc, to', tc, e, h1.box hg hno f, h2.box hg hno f⟩
theorem FlR.box {w w' : World} {B g : Nat} {v : Value} {o : Option (Option Sp × Option Sp)} {cs : Array Value} {t : TypeId} (h : FlR w B v o) (hg : w.heap[g]? = some (.cells cs t (0, 0))) (hno : NoInt cs) (f : Fr (fun k => k = g) w w') : FlR w' B v o := by
  cases o with
  | none => exact h
  | some z =>
    obtain ⟨x, y⟩ := z
    obtain ⟨o3, n3, k3, o4, n4, k4, o5, n5, k5, o6, n6, k6, e, h1, h2⟩ := h
    exact ⟨o3, n3, k3, o4, n4, k4, o5, n5, k5, o6, n6, k6, e, fun s hs => (h1 s hs).box hg hno f, fun s hs => (h2 s hs).box hg hno f⟩
theorem FlR.keep {w w' : World} {B : Nat} {v : Value} {o : Option (Option Sp × Option Sp)} (h : FlR w B v o) (f : Fr (fun _ => False) w w') : FlR w' B v o := by
  cases o with
  | none => exact h
  | some z =>
    obtain ⟨x, y⟩ := z
    obtain ⟨o3, n3, k3, o4, n4, k4, o5, n5, k5, o6, n6, k6, e, h1, h2⟩ := h
    exact ⟨o3, n3, k3, o4, n4, k4, o5, n5, k5, o6, n6, k6, e, fun s hs => (h1 s hs).keep f (fun _ _ f => f), fun s hs => (h2 s hs).keep f (fun _ _ f => f)⟩
theorem FlR.seven {w : World} {B : Nat} {v : Value} {o : Option (Option Sp × Option Sp)} (h : FlR w B v o) : ∃ ok nx fr o3 n3 k3 o4 n4 k4 o5 n5 k5 o6 n6 k6, v = .agg #[.bool ok, .bool nx, .bool fr, .slice o3 n3 k3, .slice o4 n4 k4, .slice o5 n5 k5, .slice o6 n6 k6] := by
  cases o with
  | none => obtain ⟨x1, x2, o3, n3, k3, o4, n4, k4, o5, n5, k5, o6, n6, k6, e⟩ := h; exact ⟨false, _, _, _, _, _, _, _, _, _, _, _, _, _, _, e⟩
  | some z =>
    obtain ⟨x, y⟩ := z
    obtain ⟨o3, n3, k3, o4, n4, k4, o5, n5, k5, o6, n6, k6, e, h1, h2⟩ := h
    exact ⟨true, _, _, _, _, _, _, _, _, _, _, _, _, _, _, e⟩
theorem z7_no : NoInt z7 := by
  intro i x h
  rcases i with _ | _ | _ | _ | _ | _ | _ | i <;> simp [z7] at h
end Go.Proofs.YtoiglopilpoafaaGreatDoor.Cd

namespace Go.Proofs.YtoiglopilpoafaaGreatDoor.Cd
open Go.RowKit Ty
set_option linter.unusedSimpArgs false
set_option linter.unusedVariables false

theorem take_eq_snoc {l r : List Int} {j : Nat} {x y : Int} (h : l.take j = r.take j) (hx : l[j]? = some x) (hy : r[j]? = some y) (e : x = y) : l.take (j + 1) = r.take (j + 1) := by
  rw [List.take_add_one, List.take_add_one, h, hx, hy, e]
/-- What makes a function of the law's own one that Verify takes. -/
theorem fi_of {w : World} {B : Nat} {v v' : Value} {f : Fu} {p : Fm} (h : FnO w B v f) (h' : FmO w B v' p) (hok : ∀ i ∈ f.cd, OkIn i) (hps : ∀ g ∈ p.fns, g.ps.length ≤ 17592186044416) (ht : F.Tab w) :
    ∃ a0 a2 a3 a4 a5 c0 c2 c3 c4 c5, v = .agg #[.slice a0 f.sg.ps.length c0, ci f.sg.res, .slice a2 f.loc.length c2, .slice a3 f.cd.length c3] ∧ v' = .agg #[.slice a4 p.fns.length c4, .slice a5 p.vars.length c5] ∧ Fi w f p a0 a2 a3 a4 a5 c0 c2 c3 c4 c5 := by
  obtain ⟨vp, vl, vc, rfl, h1, h2, h3⟩ := h
  obtain ⟨v4, v5, rfl, h4, h5⟩ := h'
  obtain ⟨a0, c0, rfl, i0⟩ := h1.inl
  obtain ⟨a2, c2, rfl, i2⟩ := h2.inl
  obtain ⟨a3, c3, rfl, i3⟩ := h3.il
  obtain ⟨a4, c4, rfl, i4⟩ := h4.sgl
  obtain ⟨a5, c5, rfl, i5⟩ := h5.inl
  exact ⟨a0, a2, a3, a4, a5, c0, c2, c3, c4, c5, rfl, rfl, ⟨i0, i2, i3, i4, i5, hok, hps, ht⟩⟩
end Go.Proofs.YtoiglopilpoafaaGreatDoor.Cd

namespace Go.Proofs.YtoiglopilpoafaaGreatDoor.Cd
open Go.RowKit Ty
set_option linter.unusedSimpArgs false
set_option linter.unusedVariables false

theorem out_set (f : Fu) (p : Fm) (a : Nat) (i : In) : outS { f with cd := f.cd.set a i } p = outS f p := by
  have e : (f.cd.set a i = []) = (f.cd = []) := by
    apply propext
    rw [← List.length_eq_zero_iff, ← List.length_eq_zero_iff, List.length_set]
  unfold outS
  simp only [List.length_set, e]
theorem all_right {f : Fu} (h : ∀ i ∈ f.cd, rightS i = true) : ¬ 0 ≤ badI f := by
  unfold badI
  rcases idxP_spec (fun i => !rightS i) f.cd 0 with ⟨_, h2, _⟩ | ⟨k, x, h1, h2, _⟩
  · rw [h2]; decide
  · have := h x (List.mem_of_getElem? h1)
    simp [this] at h2
theorem at_none {L : Cs} {k : Nat} (hk : k < L.length) (h : atS (some L) k = none) : L[k]? = some none := by
  obtain ⟨c, hc⟩ : ∃ c, L[k]? = some c := ⟨_, List.getElem?_eq_getElem hk⟩
  unfold atS at h
  rw [Option.bind_some, hc, Option.bind_some] at h
  cases c with
  | none => exact hc
  | some z => cases h
theorem at_some {L : Cs} {k : Nat} {s : Sp} (h : atS (some L) k = some s) : ∃ g, L[k]? = some (some (g, s)) := by
  unfold atS at h
  rw [Option.bind_some] at h
  cases hc : L[k]? with
  | none => rw [hc] at h; cases h
  | some c =>
    rw [hc, Option.bind_some] at h
    cases c with
    | none => cases h
    | some z =>
      obtain ⟨g, s'⟩ := z
      cases h
      exact ⟨g, rfl⟩
theorem dead_plain {f : Fu} {p : Fm} {a : Nat} {i : In} (hv : (verS f p).2 = 0) (ha : a < f.cd.length) (hs : shpS f p a = none) (hi : rightS i = true) :
    verS { f with cd := f.cd.set a i } p = (0, 0) ∧ ∀ n : Int, shpS { f with cd := f.cd.set a i } p n = shpS f p n := by
  obtain ⟨L, hfin, hrun, hout, hbad, _⟩ := ver_fin hv
  have hinv := fin_inv hrun hout hbad
  have hL : L[a]? = some none := by
    unfold shpS at hs
    rw [if_neg (by rintro (e | e | e); exact e hv; omega; omega), hfin, Int.toNat_natCast] at hs
    exact at_none (by rw [hinv.len]; exact ha) hs
  have hlen : (f.cd.set a i).length = f.cd.length := List.length_set
  have hgo := run_some f p
  rw [hrun] at hgo
  have hgo' := goS_dead (f := f) (f' := { f with cd := f.cd.set a i }) hL rfl rfl hlen (fun k hk => by
    show (f.cd.set a i).getD k default = f.cd.getD k default
    rw [List.getD_eq_getElem?_getD, List.getD_eq_getElem?_getD, List.getElem?_set_ne (fun e => hk e.symm)]) hgo
  have hrun' : runS { f with cd := f.cd.set a i } p = .ok L := by
    unfold runS
    simp only [hlen]
    rw [hgo']
    rfl
  have hout' : outS { f with cd := f.cd.set a i } p = 0 := by rw [out_set]; exact hout
  have hbad' : ¬ 0 ≤ badI { f with cd := f.cd.set a i } := all_right (fun x hx => by
    rcases List.mem_or_eq_of_mem_set hx with h | h
    · exact bad_no hbad x h
    · rw [h]; exact hi)
  have hver' : verS { f with cd := f.cd.set a i } p = (0, 0) := by
    unfold verS
    rw [if_neg (by simpa using hout'), if_neg hbad', hrun']
    rfl
  have hfin' : finS { f with cd := f.cd.set a i } p = some L := by
    unfold finS
    rw [if_neg (by simpa using hout'), if_neg hbad', hrun']
    rfl
  refine ⟨hver', fun n => ?_⟩
  have e1 : (verS f p).2 = 0 := hv
  unfold shpS
  rw [hver', hfin', e1, hfin]
  simp only [hlen]
/-- P1402's plain side: each place that is come to fits. -/
theorem fits_plain {f : Fu} {p : Fm} {L : Cs} (hrun : runS f p = .ok L) : ∀ (k : Nat) g s, L[k]? = some (some (g, s)) → Fits f p L k s := by
  have hgo := run_some f p
  rw [hrun] at hgo
  refine (goS_fits hgo ?_).2
  intro k s hk
  unfold startS at hk
  rw [List.getElem?_set] at hk
  split at hk
  · split at hk
    · cases hk
    · cases hk
  · rw [List.getElem?_replicate] at hk
    split at hk <;> cases hk
end Go.Proofs.YtoiglopilpoafaaGreatDoor.Cd

namespace Go.Proofs.YtoiglopilpoafaaGreatDoor.Cd
open Go.RowKit Ty
set_option linter.unusedSimpArgs false
set_option linter.unusedVariables false

theorem step_load {w : World} {ops : Array Oper} {o : Oper} {a : Act} {K : Act → World → Prop} {Q : Exit → Act → World → Prop} {E : Prop} (hgd : o.guard = none) (ty : TypeId) (x : Operand) (ho : o.op = .load ty x)
    (g : Nat) (hx : a.eval x = .pointer (some ⟨g, 0, none⟩)) (t : TypeId) (cs : Array Value) {fs : Array Field} (hg : w.heap[g]? = some (.cells cs t (0, 0)))
    (hu : Tryz.prog.underlying ty = some (.struct fs)) (hi : (Tryz.prog.info? ty).map (·.size) = some cs.size)
    (h : K (a.put o.dst (.agg cs)) w) : if Region.wanted o (yielded ops a.tmps) = true then Oper.wp Tryz.prog o a w K Q else E := by
  have hw : Region.wanted o (yielded ops a.tmps) = true := by simp [Region.wanted, hgd]
  rw [if_pos hw]
  exact wp_load_row ty x ho g hx t cs (0, 0) (.struct fs) hg hu rfl hi h
theorem step_store {w : World} {ops : Array Oper} {o : Oper} {a : Act} {K : Act → World → Prop} {Q : Exit → Act → World → Prop} {E : Prop} (hgd : o.guard = none) (ty : TypeId) (x y : Operand) (ho : o.op = .store ty x y)
    (g : Nat) (cells : Array Value) (hx : a.eval x = .pointer (some ⟨g, 0, none⟩)) (hy : a.eval y = .agg cells) (t : TypeId) (old : Array Value) (hg : w.heap[g]? = some (.cells old t (0, 0)))
    (hi : (Tryz.prog.info? ty).map (·.size) = some cells.size) (hold : old.size = cells.size) (h1 : cells.all (·.oneCell') = true)
    (h : K (a.put o.dst undef) (w.setRow g cells)) : if Region.wanted o (yielded ops a.tmps) = true then Oper.wp Tryz.prog o a w K Q else E := by
  have hw : Region.wanted o (yielded ops a.tmps) = true := by simp [Region.wanted, hgd]
  rw [if_pos hw]
  exact wp_store_row ty x y ho g cells hx hy t old hg hi hold h1 h
theorem Fr.setRow (w : World) (g : Nat) (cs : Array Value) : Fr (fun k => k = g) w (w.setRow g cs) :=
  ⟨rfl, rfl, by simp, fun k _ hk => setRow_other w g k cs hk⟩
abbrev fnV (f : Fu) (a0 a2 a3 : Option Addr) (c0 c2 c3 : Nat) : Array Value := #[.slice a0 f.sg.ps.length c0, ci f.sg.res, .slice a2 f.loc.length c2, .slice a3 f.cd.length c3]
abbrev fmV (p : Fm) (a4 a5 : Option Addr) (c4 c5 : Nat) : Array Value := #[.slice a4 p.fns.length c4, .slice a5 p.vars.length c5]
theorem FnO.keepN {w w' : World} {B : Nat} {v : Value} {f : Fu} (h : FnO w B v f) (fr : Fr (fun _ => False) w w') : FnO w' B v f := by
  obtain ⟨vp, vl, vc, e, h1, h2, h3⟩ := h
  exact ⟨vp, vl, vc, e, h1.keepN fr, h2.keepN fr, h3.keepN fr⟩
theorem FmO.keepN {w w' : World} {B : Nat} {v : Value} {p : Fm} (h : FmO w B v p) (fr : Fr (fun _ => False) w w') : FmO w' B v p := by
  obtain ⟨v4, v5, e, h1, h2⟩ := h
  exact ⟨v4, v5, e, h1.keepN fr, h2.keepN fr⟩
theorem t_ne : (3 : TypeId) ≠ 46 ∧ (69 : TypeId) ≠ 46 ∧ (43 : TypeId) ≠ 46 ∧ (69 : TypeId) ≠ 64 ∧ (43 : TypeId) ≠ 64 := by decide
/-- A write into a box of another type keeps what is of the law's own. -/
theorem FnO.box {w w' : World} {B b : Nat} {v : Value} {f : Fu} {cs : Array Value} {t : TypeId} (h : FnO w B v f) (hb : w.heap[b]? = some (.cells cs t (0, 0))) (h1 : (3 : TypeId) ≠ t) (h2 : (69 : TypeId) ≠ t) (fr : Fr (fun k => k = b) w w') : FnO w' B v f := by
  obtain ⟨vp, vl, vc, e, i1, i2, i3⟩ := h
  exact ⟨vp, vl, vc, e, own_keep i1 fr (fun k e e2 => by subst e2; exact own_notrow i1 hb h1 e), own_keep i2 fr (fun k e e2 => by subst e2; exact own_notrow i2 hb h1 e), own_keep i3 fr (fun k e e2 => by subst e2; exact own_notrow i3 hb h2 e)⟩
theorem FmO.box {w w' : World} {B b : Nat} {v : Value} {p : Fm} {cs : Array Value} {t : TypeId} (h : FmO w B v p) (hb : w.heap[b]? = some (.cells cs t (0, 0))) (h1 : (3 : TypeId) ≠ t) (h2 : (43 : TypeId) ≠ t) (fr : Fr (fun k => k = b) w w') : FmO w' B v p := by
  obtain ⟨v4, v5, e, ⟨xs, i1, i2, i3⟩, i5⟩ := h
  exact ⟨v4, v5, e, ⟨xs, i1, own_keep i2 fr (fun k e e2 => by subst e2; exact own_notrow i2 hb h2 e), fun i s x hs hx => own_keep (i3 i s x hs hx) fr (fun k e e2 => by subst e2; exact own_notrow (i3 i s x hs hx) hb h1 e)⟩, own_keep i5 fr (fun k e e2 => by subst e2; exact own_notrow i5 hb h1 e)⟩
end Go.Proofs.YtoiglopilpoafaaGreatDoor.Cd

namespace Go.Proofs.YtoiglopilpoafaaGreatDoor
open Go.RowKit
set_option linter.unusedSimpArgs false
set_option linter.unusedVariables false

/-- The operations that this one waits for. -/
def depsOf (ops : Array Oper) (i : Nat) : List Nat := ((ops[i]?).map fun o => (o.after.toList.filter (Region.binds .any)).map (·.on)).getD []
/-- Each operation waits for earlier ones alone. -/
def depsLow (ops : Array Oper) : Bool := (List.range ops.size).all fun i => (depsOf ops i).all fun j => decide (j < i)
theorem ready_iff {ops : Array Oper} {l : Array Bool} {i : Nat} : i ∈ Region.ready .any ops l ↔ l.getD i true = false ∧ i < ops.size ∧ ∀ j ∈ depsOf ops i, l.getD j false = true := by
  rw [mem_ready]
  constructor
  · rintro ⟨h1, o, ho, h2⟩
    refine ⟨h1, (Array.getElem?_eq_some_iff.1 ho).1, fun j hj => ?_⟩
    unfold depsOf at hj
    rw [ho] at hj
    simp only [Option.map_some, Option.getD_some, List.mem_map, List.mem_filter, Array.mem_toList_iff] at hj
    obtain ⟨e, ⟨he, hb⟩, rfl⟩ := hj
    exact h2 e he hb
  · rintro ⟨h1, hi, h2⟩
    refine ⟨h1, ops[i], Array.getElem?_eq_getElem hi, fun e he hb => h2 e.on ?_⟩
    unfold depsOf
    rw [Array.getElem?_eq_getElem hi]
    simp only [Option.map_some, Option.getD_some, List.mem_map, List.mem_filter, Array.mem_toList_iff]
    exact ⟨e, ⟨he, hb⟩, rfl⟩
theorem all_listed {ops : Array Oper} {l : Array Bool} (hl : depsLow ops = true) (hr : Region.ready .any ops l = []) : ∀ i, i < ops.size → l.getD i true = true := by
  intro i
  induction i using Nat.strongRecOn with
  | _ i ih =>
    intro hi
    cases h : l.getD i true with
    | true => rfl
    | false =>
      exfalso
      have hm : i ∈ Region.ready .any ops l := by
        refine ready_iff.2 ⟨h, hi, fun j hj => ?_⟩
        have h1 : j < i := by
          unfold depsLow at hl
          rw [List.all_eq_true] at hl
          have := hl i (List.mem_range.2 hi)
          rw [List.all_eq_true] at this
          exact of_decide_eq_true (this j hj)
        have h2 := ih j h1 (by omega)
        have h3 : j < l.size := by
          have : i < l.size := by
            by_cases h4 : i < l.size
            · exact h4
            · rw [Array.getD_eq_getD_getElem?, Array.getElem?_eq_none (by omega)] at h; cases h
          omega
        rw [Array.getD_eq_getD_getElem?, Array.getElem?_eq_getElem h3] at h2 ⊢
        exact h2
      rw [hr] at hm
      cases hm
theorem wpAny_inv {P : Program} {ops : Array Oper} {Q : Exit → Act → World → Prop} {J : Array Bool → Act → World → Prop} (hl : depsLow ops = true)
    (hs : ∀ l a w i, l.size = ops.size → J l a w → l.getD i true = false → i < ops.size → (∀ j ∈ depsOf ops i, l.getD j false = true) → wpOp P ops Q i (J (l.setIfInBounds i true)) a w)
    (he : ∀ l a w, l.size = ops.size → (∀ i, i < ops.size → l.getD i true = true) → J l a w → Q .normal a w) :
    ∀ (fuel : Nat) (l : Array Bool) (a : Act) (w : World), l.size = ops.size → l.toList.count false ≤ fuel → J l a w → wpAny P .any ops Q fuel l a w
  | 0, l, a, w, hz, hc, hJ => by
    have hn : Region.ready .any ops l = [] := by
      cases hr : Region.ready .any ops l with
      | nil => rfl
      | cons i t =>
        exfalso
        have hi : i ∈ Region.ready .any ops l := by rw [hr]; exact List.mem_cons_self
        have h1 := (ready_iff.1 hi).1
        have h2 : i < l.size := by rw [hz]; exact (ready_iff.1 hi).2.1
        rw [Array.getD_eq_getD_getElem?, Array.getElem?_eq_getElem h2, Option.getD_some] at h1
        have : false ∈ l.toList := by rw [← h1]; exact Array.mem_toList_iff.2 (Array.getElem_mem h2)
        have := List.count_pos_iff.2 this
        omega
    exact ⟨hn, he l a w hz (all_listed hl hn) hJ⟩
  | fuel + 1, l, a, w, hz, hc, hJ => by
    refine ⟨fun h0 => he l a w hz (all_listed hl h0) hJ, fun i hi => ?_⟩
    obtain ⟨h1, h2, h3⟩ := ready_iff.1 hi
    refine wpOp_mono (fun a' w' h => wpAny_inv hl hs he fuel _ a' w' (by simpa using hz) ?_ h) (hs l a w i hz hJ h1 h2 h3)
    have h4 : i < l.toList.length := by simp; omega
    have h5 : l.toList[i] = false := by
      rw [Array.getD_eq_getD_getElem?, Array.getElem?_eq_getElem (by omega), Option.getD_some] at h1
      simpa using h1
    rw [Array.toList_setIfInBounds, List.count_set h4, h5]
    have : 0 < l.toList.count false := List.count_pos_iff.2 (by rw [← h5]; exact List.getElem_mem h4)
    have e1 : (false == false) = true := rfl
    have e2 : (true == false) = false := rfl
    rw [e1, e2, if_pos rfl, if_neg (by decide)]
    omega
theorem wp_region_inv {P : Program} {ops : Array Oper} {Q : Exit → Act → World → Prop} {id : Nat} {a : Act} {w : World} (J : Array Bool → Act → World → Prop) (hm : P.follows .mixedOrders = true) (hl : depsLow ops = true)
    (h0 : J (Array.replicate ops.size false) a w.drew)
    (hs : ∀ l a w i, l.size = ops.size → J l a w → l.getD i true = false → i < ops.size → (∀ j ∈ depsOf ops i, l.getD j false = true) → wpOp P ops Q i (J (l.setIfInBounds i true)) a w)
    (he : ∀ l a w, l.size = ops.size → (∀ i, i < ops.size → l.getD i true = true) → J l a w → Q .normal a w) : (Code.region id ops true).wp P Q a w :=
  wp_region_any hm (wpAny_inv hl hs he ops.size _ a _ (by simp) (Nat.le_trans List.count_le_length (by simp)) h0)
end Go.Proofs.YtoiglopilpoafaaGreatDoor
