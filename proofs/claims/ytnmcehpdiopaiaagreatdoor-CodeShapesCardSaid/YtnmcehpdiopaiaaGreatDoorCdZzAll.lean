/- Texts of ours, in one. -/
import Derived.Test.YtnmcehpdiopaiaaGreatDoorCdFm
import Derived.Test.YtnmcehpdiopaiaaGreatDoorCdVAll
import Derived.Deep.RegionHeld3
import Derived.Laws.Rows
import Derived.Laws.Tables
import Derived.Test.YtnmcehpdiopaiaaGreatDoorNxA
import Derived.Orders
import Derived.Test.YtnmcehpdiopaiaaGreatDoorCdIn
namespace Go.Proofs.YtnmcehpdiopaiaaGreatDoor.Cd
open Go.RowKit Ty
set_option linter.unusedSimpArgs false
set_option linter.unusedVariables false

theorem take_eq_snoc {l r : List Int} {j : Nat} {x y : Int} (h : l.take j = r.take j) (hx : l[j]? = some x) (hy : r[j]? = some y) (e : x = y) : l.take (j + 1) = r.take (j + 1) := by
  rw [List.take_add_one, List.take_add_one, h, hx, hy, e]
/-- What makes a function of the law's own one that Verify takes. -/
theorem fi_of {w : World} {B : Nat} {v v' : Value} {f : Fu} {p : Fm} (h : FnO w B v f) (h' : FmO w B v' p) (hok : ∀ i ∈ f.cd, OkIn i) (hps : ∀ g ∈ p.fns, g.ps.length ≤ 17592186044416) (ht : F.Tab w) :
    ∃ a0 a2 a3 a4 a5 c0 c2 c3 c4 c5, v = .agg #[.slice a0 f.sg.ps.length c0, ci f.sg.res, .slice a2 f.loc.length c2, .slice a3 f.cd.length c3] ∧ v' = .agg #[.slice a4 p.fns.length c4, .slice a5 p.vars.length c5] ∧ Fi w f p a0 a2 a3 a4 a5 c0 c2 c3 c4 c5 := by
  obtain ⟨vp, vl, vc, rfl, h1, h2, h3⟩ := h
  obtain ⟨v4, v5, rfl, h4, h5⟩ := h'
  obtain ⟨a0, c0, rfl, i0⟩ := h1.inl
  obtain ⟨a2, c2, rfl, i2⟩ := h2.inl
  obtain ⟨a3, c3, rfl, i3⟩ := h3.il
  obtain ⟨a4, c4, rfl, i4⟩ := h4.sgl
  obtain ⟨a5, c5, rfl, i5⟩ := h5.inl
  exact ⟨a0, a2, a3, a4, a5, c0, c2, c3, c4, c5, rfl, rfl, ⟨i0, i2, i3, i4, i5, hok, hps, ht⟩⟩
end Go.Proofs.YtnmcehpdiopaiaaGreatDoor.Cd

namespace Go.Proofs.YtnmcehpdiopaiaaGreatDoor.Cd
open Go.RowKit Ty
set_option linter.unusedSimpArgs false
set_option linter.unusedVariables false

theorem out_set (f : Fu) (p : Fm) (a : Nat) (i : In) : outS { f with cd := f.cd.set a i } p = outS f p := by
  have e : (f.cd.set a i = []) = (f.cd = []) := by
    apply propext
    rw [← List.length_eq_zero_iff, ← List.length_eq_zero_iff, List.length_set]
  unfold outS
  simp only [List.length_set, e]
theorem all_right {f : Fu} (h : ∀ i ∈ f.cd, rightS i = true) : ¬ 0 ≤ badI f := by
  unfold badI
  rcases idxP_spec (fun i => !rightS i) f.cd 0 with ⟨_, h2, _⟩ | ⟨k, x, h1, h2, _⟩
  · rw [h2]; decide
  · have := h x (List.mem_of_getElem? h1)
    simp [this] at h2
theorem at_none {L : Cs} {k : Nat} (hk : k < L.length) (h : atS (some L) k = none) : L[k]? = some none := by
  obtain ⟨c, hc⟩ : ∃ c, L[k]? = some c := ⟨_, List.getElem?_eq_getElem hk⟩
  unfold atS at h
  rw [Option.bind_some, hc, Option.bind_some] at h
  cases c with
  | none => exact hc
  | some z => cases h
theorem at_some {L : Cs} {k : Nat} {s : Sp} (h : atS (some L) k = some s) : ∃ g, L[k]? = some (some (g, s)) := by
  unfold atS at h
  rw [Option.bind_some] at h
  cases hc : L[k]? with
  | none => rw [hc] at h; cases h
  | some c =>
    rw [hc, Option.bind_some] at h
    cases c with
    | none => cases h
    | some z =>
      obtain ⟨g, s'⟩ := z
      cases h
      exact ⟨g, rfl⟩
theorem dead_plain {f : Fu} {p : Fm} {a : Nat} {i : In} (hv : (verS f p).2 = 0) (ha : a < f.cd.length) (hs : shpS f p a = none) (hi : rightS i = true) :
    verS { f with cd := f.cd.set a i } p = (0, 0) ∧ ∀ n : Int, shpS { f with cd := f.cd.set a i } p n = shpS f p n := by
  obtain ⟨L, hfin, hrun, hout, hbad, _⟩ := ver_fin hv
  have hinv := fin_inv hrun hout hbad
  have hL : L[a]? = some none := by
    unfold shpS at hs
    rw [if_neg (by rintro (e | e | e); exact e hv; omega; omega), hfin, Int.toNat_natCast] at hs
    exact at_none (by rw [hinv.len]; exact ha) hs
  have hlen : (f.cd.set a i).length = f.cd.length := List.length_set
  have hgo := run_some f p
  rw [hrun] at hgo
  have hgo' := goS_dead (f := f) (f' := { f with cd := f.cd.set a i }) hL rfl rfl hlen (fun k hk => by
    show (f.cd.set a i).getD k default = f.cd.getD k default
    rw [List.getD_eq_getElem?_getD, List.getD_eq_getElem?_getD, List.getElem?_set_ne (fun e => hk e.symm)]) hgo
  have hrun' : runS { f with cd := f.cd.set a i } p = .ok L := by
    unfold runS
    simp only [hlen]
    rw [hgo']
    rfl
  have hout' : outS { f with cd := f.cd.set a i } p = 0 := by rw [out_set]; exact hout
  have hbad' : ¬ 0 ≤ badI { f with cd := f.cd.set a i } := all_right (fun x hx => by
    rcases List.mem_or_eq_of_mem_set hx with h | h
    · exact bad_no hbad x h
    · rw [h]; exact hi)
  have hver' : verS { f with cd := f.cd.set a i } p = (0, 0) := by
    unfold verS
    rw [if_neg (by simpa using hout'), if_neg hbad', hrun']
    rfl
  have hfin' : finS { f with cd := f.cd.set a i } p = some L := by
    unfold finS
    rw [if_neg (by simpa using hout'), if_neg hbad', hrun']
    rfl
  refine ⟨hver', fun n => ?_⟩
  have e1 : (verS f p).2 = 0 := hv
  unfold shpS
  rw [hver', hfin', e1, hfin]
  simp only [hlen]
/-- P1402's plain side: each place that is come to fits. -/
theorem fits_plain {f : Fu} {p : Fm} {L : Cs} (hrun : runS f p = .ok L) : ∀ (k : Nat) g s, L[k]? = some (some (g, s)) → Fits f p L k s := by
  have hgo := run_some f p
  rw [hrun] at hgo
  refine (goS_fits hgo ?_).2
  intro k s hk
  unfold startS at hk
  rw [List.getElem?_set] at hk
  split at hk
  · split at hk
    · cases hk
    · cases hk
  · rw [List.getElem?_replicate] at hk
    split at hk <;> cases hk
end Go.Proofs.YtnmcehpdiopaiaaGreatDoor.Cd

namespace Go.Proofs.YtnmcehpdiopaiaaGreatDoor.Cd
open Go.RowKit Ty
set_option linter.unusedSimpArgs false
set_option linter.unusedVariables false

theorem step_load {w : World} {ops : Array Oper} {o : Oper} {a : Act} {K : Act → World → Prop} {Q : Exit → Act → World → Prop} {E : Prop} (hgd : o.guard = none) (ty : TypeId) (x : Operand) (ho : o.op = .load ty x)
    (g : Nat) (hx : a.eval x = .pointer (some ⟨g, 0, none⟩)) (t : TypeId) (cs : Array Value) {fs : Array Field} (hg : w.heap[g]? = some (.cells cs t (0, 0)))
    (hu : Tryz.prog.underlying ty = some (.struct fs)) (hi : (Tryz.prog.info? ty).map (·.size) = some cs.size)
    (h : K (a.put o.dst (.agg cs)) w) : if Region.wanted o (yielded ops a.tmps) = true then Oper.wp Tryz.prog o a w K Q else E := by
  have hw : Region.wanted o (yielded ops a.tmps) = true := by simp [Region.wanted, hgd]
  rw [if_pos hw]
  exact wp_load_row ty x ho g hx t cs (0, 0) (.struct fs) hg hu rfl hi h
theorem step_store {w : World} {ops : Array Oper} {o : Oper} {a : Act} {K : Act → World → Prop} {Q : Exit → Act → World → Prop} {E : Prop} (hgd : o.guard = none) (ty : TypeId) (x y : Operand) (ho : o.op = .store ty x y)
    (g : Nat) (cells : Array Value) (hx : a.eval x = .pointer (some ⟨g, 0, none⟩)) (hy : a.eval y = .agg cells) (t : TypeId) (old : Array Value) (hg : w.heap[g]? = some (.cells old t (0, 0)))
    (hi : (Tryz.prog.info? ty).map (·.size) = some cells.size) (hold : old.size = cells.size) (h1 : cells.all (·.oneCell') = true)
    (h : K (a.put o.dst undef) (w.setRow g cells)) : if Region.wanted o (yielded ops a.tmps) = true then Oper.wp Tryz.prog o a w K Q else E := by
  have hw : Region.wanted o (yielded ops a.tmps) = true := by simp [Region.wanted, hgd]
  rw [if_pos hw]
  exact wp_store_row ty x y ho g cells hx hy t old hg hi hold h1 h
theorem Fr.setRow (w : World) (g : Nat) (cs : Array Value) : Fr (fun k => k = g) w (w.setRow g cs) :=
  ⟨rfl, rfl, by simp, fun k _ hk => setRow_other w g k cs hk⟩
abbrev fnV (f : Fu) (a0 a2 a3 : Option Addr) (c0 c2 c3 : Nat) : Array Value := #[.slice a0 f.sg.ps.length c0, ci f.sg.res, .slice a2 f.loc.length c2, .slice a3 f.cd.length c3]
abbrev fmV (p : Fm) (a4 a5 : Option Addr) (c4 c5 : Nat) : Array Value := #[.slice a4 p.fns.length c4, .slice a5 p.vars.length c5]
theorem FnO.keepN {w w' : World} {B : Nat} {v : Value} {f : Fu} (h : FnO w B v f) (fr : Fr (fun _ => False) w w') : FnO w' B v f := by
  obtain ⟨vp, vl, vc, e, h1, h2, h3⟩ := h
  exact ⟨vp, vl, vc, e, h1.keepN fr, h2.keepN fr, h3.keepN fr⟩
theorem FmO.keepN {w w' : World} {B : Nat} {v : Value} {p : Fm} (h : FmO w B v p) (fr : Fr (fun _ => False) w w') : FmO w' B v p := by
  obtain ⟨v4, v5, e, h1, h2⟩ := h
  exact ⟨v4, v5, e, h1.keepN fr, h2.keepN fr⟩
theorem t_ne : (3 : TypeId) ≠ 37 ∧ (64 : TypeId) ≠ 37 ∧ (34 : TypeId) ≠ 37 ∧ (64 : TypeId) ≠ 41 ∧ (34 : TypeId) ≠ 41 := by decide
/-- A write into a box of another type keeps what is of the law's own. -/
theorem FnO.box {w w' : World} {B b : Nat} {v : Value} {f : Fu} {cs : Array Value} {t : TypeId} (h : FnO w B v f) (hb : w.heap[b]? = some (.cells cs t (0, 0))) (h1 : (3 : TypeId) ≠ t) (h2 : (64 : TypeId) ≠ t) (fr : Fr (fun k => k = b) w w') : FnO w' B v f := by
  obtain ⟨vp, vl, vc, e, i1, i2, i3⟩ := h
  exact ⟨vp, vl, vc, e, own_keep i1 fr (fun k e e2 => by subst e2; exact own_notrow i1 hb h1 e), own_keep i2 fr (fun k e e2 => by subst e2; exact own_notrow i2 hb h1 e), own_keep i3 fr (fun k e e2 => by subst e2; exact own_notrow i3 hb h2 e)⟩
theorem FmO.box {w w' : World} {B b : Nat} {v : Value} {p : Fm} {cs : Array Value} {t : TypeId} (h : FmO w B v p) (hb : w.heap[b]? = some (.cells cs t (0, 0))) (h1 : (3 : TypeId) ≠ t) (h2 : (34 : TypeId) ≠ t) (fr : Fr (fun k => k = b) w w') : FmO w' B v p := by
  obtain ⟨v4, v5, e, ⟨xs, i1, i2, i3⟩, i5⟩ := h
  exact ⟨v4, v5, e, ⟨xs, i1, own_keep i2 fr (fun k e e2 => by subst e2; exact own_notrow i2 hb h2 e), fun i s x hs hx => own_keep (i3 i s x hs hx) fr (fun k e e2 => by subst e2; exact own_notrow (i3 i s x hs hx) hb h1 e)⟩, own_keep i5 fr (fun k e e2 => by subst e2; exact own_notrow i5 hb h1 e)⟩
theorem fn_lit (f : Fu) (a0 a2 a3 : Option Addr) (c0 c2 c3 : Nat) (B : Nat) (w : World) (h0 : InL w a0 c0 f.sg.ps) (h2 : InL w a2 c2 f.loc) (h3 : IL w a3 c3 f.cd) (hb0 : f.sg.ps.length ≤ 17592186044416) (hb2 : f.loc.length ≤ 17592186044416) (hb3 : f.cd.length ≤ 4398046510976) (hB : B ≤ w.heap.size) :
    Calls Tryz.prog 6 #[.agg (fnV f a0 a2 a3 c0 c2 c3)] w fun e w' => ∃ b0 b2 b3 d0 d2 d3, e = .returned (.agg (fnV f b0 b2 b3 d0 d2 d3)) ∧ FnO w' B (.agg (fnV f b0 b2 b3 d0 d2 d3)) f ∧ Fr (fun _ => False) w w' :=
  (fn_any f a0 a2 a3 c0 c2 c3 _ _ _ rfl rfl rfl w h0 h2 h3 hb0 hb2 hb3).mono (fun e w' g => by
    obtain ⟨v, rfl, ⟨vp, vl, vc, rfl, i1, i2, i3⟩, g3⟩ := g
    obtain ⟨b0, d0, rfl, _⟩ := i1.inl
    obtain ⟨b2, d2, rfl, _⟩ := i2.inl
    obtain ⟨b3, d3, rfl, _⟩ := i3.il
    exact ⟨b0, b2, b3, d0, d2, d3, rfl, ⟨_, _, _, rfl, own_lower i1 hB, own_lower i2 hB, own_lower i3 hB⟩, g3⟩)
theorem frame_lit (p : Fm) (a4 a5 : Option Addr) (c4 c5 : Nat) (B : Nat) (w : World) (h4 : SgL w a4 c4 p.fns) (h5 : InL w a5 c5 p.vars) (hb4 : p.fns.length ≤ 4398046510976) (hb5 : p.vars.length ≤ 17592186044416) (hps : ∀ g ∈ p.fns, g.ps.length ≤ 17592186044416) (hB : B ≤ w.heap.size) :
    Calls Tryz.prog 7 #[.agg (fmV p a4 a5 c4 c5)] w fun e w' => ∃ b4 b5 d4 d5, e = .returned (.agg (fmV p b4 b5 d4 d5)) ∧ FmO w' B (.agg (fmV p b4 b5 d4 d5)) p ∧ Fr (fun _ => False) w w' :=
  (frame_any p a4 a5 c4 c5 _ _ rfl rfl w h4 h5 hb4 hb5 hps).mono (fun e w' g => by
    obtain ⟨v, rfl, ⟨v4, v5, rfl, i4, i5⟩, g3⟩ := g
    obtain ⟨b4, d4, rfl, _⟩ := i4.sgl
    obtain ⟨b5, d5, rfl, _⟩ := i5.inl
    exact ⟨b4, b5, d4, d5, rfl, ⟨_, _, rfl, i4.lower hB, own_lower i5 hB⟩, g3⟩)
end Go.Proofs.YtnmcehpdiopaiaaGreatDoor.Cd

namespace Go.Proofs.YtnmcehpdiopaiaaGreatDoor
open Go.RowKit
set_option linter.unusedSimpArgs false
set_option linter.unusedVariables false

/-- The operations that this one waits for. -/
def depsOf (ops : Array Oper) (i : Nat) : List Nat := ((ops[i]?).map fun o => (o.after.toList.filter (Region.binds .any)).map (·.on)).getD []
/-- Each operation waits for earlier ones alone. -/
def depsLow (ops : Array Oper) : Bool := (List.range ops.size).all fun i => (depsOf ops i).all fun j => decide (j < i)
theorem ready_iff {ops : Array Oper} {l : Array Bool} {i : Nat} : i ∈ Region.ready .any ops l ↔ l.getD i true = false ∧ i < ops.size ∧ ∀ j ∈ depsOf ops i, l.getD j false = true := by
  rw [mem_ready]
  constructor
  · rintro ⟨h1, o, ho, h2⟩
    refine ⟨h1, (Array.getElem?_eq_some_iff.1 ho).1, fun j hj => ?_⟩
    unfold depsOf at hj
    rw [ho] at hj
    simp only [Option.map_some, Option.getD_some, List.mem_map, List.mem_filter, Array.mem_toList_iff] at hj
    obtain ⟨e, ⟨he, hb⟩, rfl⟩ := hj
    exact h2 e he hb
  · rintro ⟨h1, hi, h2⟩
    refine ⟨h1, ops[i], Array.getElem?_eq_getElem hi, fun e he hb => h2 e.on ?_⟩
    unfold depsOf
    rw [Array.getElem?_eq_getElem hi]
    simp only [Option.map_some, Option.getD_some, List.mem_map, List.mem_filter, Array.mem_toList_iff]
    exact ⟨e, ⟨he, hb⟩, rfl⟩
theorem all_listed {ops : Array Oper} {l : Array Bool} (hl : depsLow ops = true) (hr : Region.ready .any ops l = []) : ∀ i, i < ops.size → l.getD i true = true := by
  intro i
  induction i using Nat.strongRecOn with
  | _ i ih =>
    intro hi
    cases h : l.getD i true with
    | true => rfl
    | false =>
      exfalso
      have hm : i ∈ Region.ready .any ops l := by
        refine ready_iff.2 ⟨h, hi, fun j hj => ?_⟩
        have h1 : j < i := by
          unfold depsLow at hl
          rw [List.all_eq_true] at hl
          have := hl i (List.mem_range.2 hi)
          rw [List.all_eq_true] at this
          exact of_decide_eq_true (this j hj)
        have h2 := ih j h1 (by omega)
        have h3 : j < l.size := by
          have : i < l.size := by
            by_cases h4 : i < l.size
            · exact h4
            · rw [Array.getD_eq_getD_getElem?, Array.getElem?_eq_none (by omega)] at h; cases h
          omega
        rw [Array.getD_eq_getD_getElem?, Array.getElem?_eq_getElem h3] at h2 ⊢
        exact h2
      rw [hr] at hm
      cases hm
theorem wpAny_inv {P : Program} {ops : Array Oper} {Q : Exit → Act → World → Prop} {J : Array Bool → Act → World → Prop} (hl : depsLow ops = true)
    (hs : ∀ l a w i, l.size = ops.size → J l a w → l.getD i true = false → i < ops.size → (∀ j ∈ depsOf ops i, l.getD j false = true) → wpOp P ops Q i (J (l.setIfInBounds i true)) a w)
    (he : ∀ l a w, l.size = ops.size → (∀ i, i < ops.size → l.getD i true = true) → J l a w → Q .normal a w) :
    ∀ (fuel : Nat) (l : Array Bool) (a : Act) (w : World), l.size = ops.size → l.toList.count false ≤ fuel → J l a w → wpAny P .any ops Q fuel l a w
  | 0, l, a, w, hz, hc, hJ => by
    have hn : Region.ready .any ops l = [] := by
      cases hr : Region.ready .any ops l with
      | nil => rfl
      | cons i t =>
        exfalso
        have hi : i ∈ Region.ready .any ops l := by rw [hr]; exact List.mem_cons_self
        have h1 := (ready_iff.1 hi).1
        have h2 : i < l.size := by rw [hz]; exact (ready_iff.1 hi).2.1
        rw [Array.getD_eq_getD_getElem?, Array.getElem?_eq_getElem h2, Option.getD_some] at h1
        have : false ∈ l.toList := by rw [← h1]; exact Array.mem_toList_iff.2 (Array.getElem_mem h2)
        have := List.count_pos_iff.2 this
        omega
    exact ⟨hn, he l a w hz (all_listed hl hn) hJ⟩
  | fuel + 1, l, a, w, hz, hc, hJ => by
    refine ⟨fun h0 => he l a w hz (all_listed hl h0) hJ, fun i hi => ?_⟩
    obtain ⟨h1, h2, h3⟩ := ready_iff.1 hi
    refine wpOp_mono (fun a' w' h => wpAny_inv hl hs he fuel _ a' w' (by simpa using hz) ?_ h) (hs l a w i hz hJ h1 h2 h3)
    have h4 : i < l.toList.length := by simp; omega
    have h5 : l.toList[i] = false := by
      rw [Array.getD_eq_getD_getElem?, Array.getElem?_eq_getElem (by omega), Option.getD_some] at h1
      simpa using h1
    rw [Array.toList_setIfInBounds, List.count_set h4, h5]
    have : 0 < l.toList.count false := List.count_pos_iff.2 (by rw [← h5]; exact List.getElem_mem h4)
    have e1 : (false == false) = true := rfl
    have e2 : (true == false) = false := rfl
    rw [e1, e2, if_pos rfl, if_neg (by decide)]
    omega
theorem wp_region_inv {P : Program} {ops : Array Oper} {Q : Exit → Act → World → Prop} {id : Nat} {a : Act} {w : World} (J : Array Bool → Act → World → Prop) (hm : P.follows .mixedOrders = true) (hl : depsLow ops = true)
    (h0 : J (Array.replicate ops.size false) a w.drew)
    (hs : ∀ l a w i, l.size = ops.size → J l a w → l.getD i true = false → i < ops.size → (∀ j ∈ depsOf ops i, l.getD j false = true) → wpOp P ops Q i (J (l.setIfInBounds i true)) a w)
    (he : ∀ l a w, l.size = ops.size → (∀ i, i < ops.size → l.getD i true = true) → J l a w → Q .normal a w) : (Code.region id ops true).wp P Q a w :=
  wp_region_any hm (wpAny_inv hl hs he ops.size _ a _ (by simp) (Nat.le_trans List.count_le_length (by simp)) h0)
end Go.Proofs.YtnmcehpdiopaiaaGreatDoor

namespace Go.Proofs.YtnmcehpdiopaiaaGreatDoor.Cd
open Go.RowKit Ty
set_option linter.unusedSimpArgs false
set_option linter.unusedVariables false

theorem wpOp_at {P : Program} {ops : Array Oper} {Q : Exit → Act → World → Prop} {i : Nat} {K : Act → World → Prop} {a : Act} {w : World} (o : Oper) (ho : ops[i]? = some o) (hg : o.guard = none) (h : ∀ K' : Act → World → Prop, (∀ a w, K a w → K' a w) → o.wp P a w K' Q) : wpOp P ops Q i K a w := by
  unfold wpOp
  rw [ho]
  simp only []
  rw [if_pos (by simp [Region.wanted, hg])]
  exact Or.inl (h K fun _ _ h => h)
theorem eval_at {d : List Deferred} {T : Array Value} {s : Nat} {v : Value} (h : T[s]? = some v) : ({ tmps := T, defers := d } : Act).eval (.tmp s) = v := by
  simp only [Act.eval, Array.getD_eq_getD_getElem?, h, Option.getD_some]
theorem upd {l : Array Bool} {i k : Nat} (h : (l.setIfInBounds i true).getD k false = true) : k = i ∨ l.getD k false = true := by
  by_cases e : k = i
  · exact Or.inl e
  · rw [Array.getD_eq_getD_getElem?, Array.getElem?_setIfInBounds_ne (fun e2 => e e2.symm), ← Array.getD_eq_getD_getElem?] at h
    exact Or.inr h
theorem fn_w {w w' : World} {g : Nat} (h : Fr (fun _ => False) w w') {o : Obj} (hg : w.heap[g]? = some o) : w'.heap[g]? = some o := h.heap hg (fun f => f)
/-- What stands once these operations have come up. -/
structure OwJ (V : World) (A : Array Value) (f : Fu) (p : Fm) (fa pa : Array Value) (d1 d2 d3 d4 d9 d10 : Nat) (l : Array Bool) (T : Array Value) (w : World) : Prop where
  sz : T.size = A.size
  off : ∀ k, k ≠ d1 → k ≠ d2 → k ≠ d3 → k ≠ d4 → k ≠ d9 → k ≠ d10 → T[k]? = A[k]?
  fr : Fr (fun _ => False) V w
  v1 : l.getD 0 false = true → T[d1]? = some (.agg fa)
  v2 : l.getD 1 false = true → ∃ b0 b2 b3 e0 e2 e3, T[d2]? = some (.agg (fnV f b0 b2 b3 e0 e2 e3)) ∧ FnO w V.heap.size (.agg (fnV f b0 b2 b3 e0 e2 e3)) f
  v3 : l.getD 2 false = true → T[d3]? = some (.agg pa)
  v4 : l.getD 3 false = true → ∃ b4 b5 e4 e5, T[d4]? = some (.agg (fmV p b4 b5 e4 e5)) ∧ FmO w V.heap.size (.agg (fmV p b4 b5 e4 e5)) p
  v9 : l.getD 4 false = true → ∃ g o, T[d9]? = some (.pointer (some ⟨g, 0, none⟩)) ∧ V.heap.size ≤ g ∧ o.size = 4 ∧ w.heap[g]? = some (.cells o 37 (0, 0)) ∧ (l.getD 6 false = true → T[d2]? = some (.agg o))
  v10 : l.getD 5 false = true → ∃ g o, T[d10]? = some (.pointer (some ⟨g, 0, none⟩)) ∧ V.heap.size ≤ g ∧ o.size = 2 ∧ w.heap[g]? = some (.cells o 41 (0, 0)) ∧ (l.getD 7 false = true → T[d4]? = some (.agg o))
  o6 : l.getD 6 false = true → l.getD 1 false = true ∧ l.getD 4 false = true
  o7 : l.getD 7 false = true → l.getD 3 false = true ∧ l.getD 5 false = true
theorem keepL {l : Array Bool} {i k : Nat} (h : l.getD k false = true) : (l.setIfInBounds i true).getD k false = true := by
  by_cases e : k = i
  · subst e
    by_cases hk : k < l.size
    · rw [Array.getD_eq_getD_getElem?, Array.getElem?_setIfInBounds_self_of_lt hk]; rfl
    · rw [Array.getD_eq_getD_getElem?, Array.getElem?_eq_none (by omega)] at h; cases h
  · rw [Array.getD_eq_getD_getElem?, Array.getElem?_setIfInBounds_ne (fun e2 => e e2.symm), ← Array.getD_eq_getD_getElem?]; exact h
theorem not_l {l : Array Bool} {k : Nat} (h : l.getD k true = false) : l.getD k false = false := by
  by_cases hk : k < l.size
  · rw [Array.getD_eq_getD_getElem?, Array.getElem?_eq_getElem hk] at h ⊢; exact h
  · rw [Array.getD_eq_getD_getElem?, Array.getElem?_eq_none (by omega)] at h; cases h
theorem OwJ.s0 {V : World} {A fa pa : Array Value} {f : Fu} {p : Fm} {d1 d2 d3 d4 d9 d10 : Nat} {l : Array Bool} {T : Array Value} {w w' : World} {v : Value} (h : OwJ V A f p fa pa d1 d2 d3 d4 d9 d10 l T w) (hd : [d1, d2, d3, d4, d9, d10].Nodup) (hlt : d1 < A.size) (fr : Fr (fun _ => False) w w') (hv : v = .agg fa) : OwJ V A f p fa pa d1 d2 d3 d4 d9 d10 (l.setIfInBounds 0 true) (T.setIfInBounds d1 v) w' := by
  simp only [List.nodup_cons, List.mem_cons, not_or, List.not_mem_nil, not_false_iff, List.nodup_nil, and_true] at hd
  obtain ⟨⟨n01, n02, n03, n04, n05⟩, ⟨n12, n13, n14, n15⟩, ⟨n23, n24, n25⟩, ⟨n34, n35⟩, n45⟩ := hd
  have self : (T.setIfInBounds d1 v)[d1]? = some v := by rw [Array.getElem?_setIfInBounds_self_of_lt (by rw [h.sz]; exact hlt)]
  have oth : ∀ e, e ≠ d1 → (T.setIfInBounds d1 v)[e]? = T[e]? := fun e he => Array.getElem?_setIfInBounds_ne (fun e2 => he e2.symm)
  refine ⟨by rw [Array.size_setIfInBounds]; exact h.sz, fun k k1 k2 k3 k4 k9 k10 => (oth k (by assumption)).trans (h.off k k1 k2 k3 k4 k9 k10), h.fr.same fr, ?_, ?_, ?_, ?_, ?_, ?_, ?_, ?_⟩
  · intro _; rw [self, hv]
  · intro hl; have hl2 : l.getD 1 false = true := by (rcases upd hl with e | e; (focus omega); exact e)
    obtain ⟨b0, b2, b3, e0, e2, e3, h1, h2⟩ := h.v2 hl2; exact ⟨b0, b2, b3, e0, e2, e3, (oth d2 (by omega)).trans h1, h2.keepN fr⟩
  · intro hl; have hl2 : l.getD 2 false = true := by (rcases upd hl with e | e; (focus omega); exact e)
    exact (oth d3 (by omega)).trans (h.v3 hl2)
  · intro hl; have hl2 : l.getD 3 false = true := by (rcases upd hl with e | e; (focus omega); exact e)
    obtain ⟨b4, b5, e4, e5, h1, h2⟩ := h.v4 hl2; exact ⟨b4, b5, e4, e5, (oth d4 (by omega)).trans h1, h2.keepN fr⟩
  · intro hl; have hl2 : l.getD 4 false = true := by (rcases upd hl with e | e; (focus omega); exact e)
    obtain ⟨g, o, h1, h2, h3, h4, h5⟩ := h.v9 hl2; exact ⟨g, o, (oth d9 (by omega)).trans h1, h2, h3, fn_w fr h4, fun hx => (oth d2 (by omega)).trans (h5 (by rcases upd hx with e | e; (focus omega); exact e))⟩
  · intro hl; have hl2 : l.getD 5 false = true := by (rcases upd hl with e | e; (focus omega); exact e)
    obtain ⟨g, o, h1, h2, h3, h4, h5⟩ := h.v10 hl2; exact ⟨g, o, (oth d10 (by omega)).trans h1, h2, h3, fn_w fr h4, fun hx => (oth d4 (by omega)).trans (h5 (by rcases upd hx with e | e; (focus omega); exact e))⟩
  · intro hl; have := h.o6 (by rcases upd hl with e | e; (focus omega); exact e); exact ⟨keepL this.1, keepL this.2⟩
  · intro hl; have := h.o7 (by rcases upd hl with e | e; (focus omega); exact e); exact ⟨keepL this.1, keepL this.2⟩
theorem OwJ.s1 {V : World} {A fa pa : Array Value} {f : Fu} {p : Fm} {d1 d2 d3 d4 d9 d10 : Nat} {l : Array Bool} {T : Array Value} {w w' : World} {v : Value} (h : OwJ V A f p fa pa d1 d2 d3 d4 d9 d10 l T w) (hd : [d1, d2, d3, d4, d9, d10].Nodup) (hlt : d2 < A.size) (fr : Fr (fun _ => False) w w') (hv : ∃ b0 b2 b3 e0 e2 e3, v = .agg (fnV f b0 b2 b3 e0 e2 e3) ∧ FnO w' V.heap.size (.agg (fnV f b0 b2 b3 e0 e2 e3)) f) (hn6 : l.getD 6 false = false) : OwJ V A f p fa pa d1 d2 d3 d4 d9 d10 (l.setIfInBounds 1 true) (T.setIfInBounds d2 v) w' := by
  simp only [List.nodup_cons, List.mem_cons, not_or, List.not_mem_nil, not_false_iff, List.nodup_nil, and_true] at hd
  obtain ⟨⟨n01, n02, n03, n04, n05⟩, ⟨n12, n13, n14, n15⟩, ⟨n23, n24, n25⟩, ⟨n34, n35⟩, n45⟩ := hd
  have self : (T.setIfInBounds d2 v)[d2]? = some v := by rw [Array.getElem?_setIfInBounds_self_of_lt (by rw [h.sz]; exact hlt)]
  have oth : ∀ e, e ≠ d2 → (T.setIfInBounds d2 v)[e]? = T[e]? := fun e he => Array.getElem?_setIfInBounds_ne (fun e2 => he e2.symm)
  refine ⟨by rw [Array.size_setIfInBounds]; exact h.sz, fun k k1 k2 k3 k4 k9 k10 => (oth k (by assumption)).trans (h.off k k1 k2 k3 k4 k9 k10), h.fr.same fr, ?_, ?_, ?_, ?_, ?_, ?_, ?_, ?_⟩
  · intro hl; have hl2 : l.getD 0 false = true := by (rcases upd hl with e | e; (focus omega); exact e)
    exact (oth d1 (by omega)).trans (h.v1 hl2)
  · intro _; obtain ⟨b0, b2, b3, e0, e2, e3, rfl, hF⟩ := hv; exact ⟨b0, b2, b3, e0, e2, e3, self, hF⟩
  · intro hl; have hl2 : l.getD 2 false = true := by (rcases upd hl with e | e; (focus omega); exact e)
    exact (oth d3 (by omega)).trans (h.v3 hl2)
  · intro hl; have hl2 : l.getD 3 false = true := by (rcases upd hl with e | e; (focus omega); exact e)
    obtain ⟨b4, b5, e4, e5, h1, h2⟩ := h.v4 hl2; exact ⟨b4, b5, e4, e5, (oth d4 (by omega)).trans h1, h2.keepN fr⟩
  · intro hl; have hl2 : l.getD 4 false = true := by (rcases upd hl with e | e; (focus omega); exact e)
    obtain ⟨g, o, h1, h2, h3, h4, h5⟩ := h.v9 hl2; exact ⟨g, o, (oth d9 (by omega)).trans h1, h2, h3, fn_w fr h4, fun hx => by rcases upd hx with e | e; (focus omega); rw [hn6] at e; cases e⟩
  · intro hl; have hl2 : l.getD 5 false = true := by (rcases upd hl with e | e; (focus omega); exact e)
    obtain ⟨g, o, h1, h2, h3, h4, h5⟩ := h.v10 hl2; exact ⟨g, o, (oth d10 (by omega)).trans h1, h2, h3, fn_w fr h4, fun hx => (oth d4 (by omega)).trans (h5 (by rcases upd hx with e | e; (focus omega); exact e))⟩
  · intro hl; have := h.o6 (by rcases upd hl with e | e; (focus omega); exact e); exact ⟨keepL this.1, keepL this.2⟩
  · intro hl; have := h.o7 (by rcases upd hl with e | e; (focus omega); exact e); exact ⟨keepL this.1, keepL this.2⟩
theorem OwJ.s2 {V : World} {A fa pa : Array Value} {f : Fu} {p : Fm} {d1 d2 d3 d4 d9 d10 : Nat} {l : Array Bool} {T : Array Value} {w w' : World} {v : Value} (h : OwJ V A f p fa pa d1 d2 d3 d4 d9 d10 l T w) (hd : [d1, d2, d3, d4, d9, d10].Nodup) (hlt : d3 < A.size) (fr : Fr (fun _ => False) w w') (hv : v = .agg pa) : OwJ V A f p fa pa d1 d2 d3 d4 d9 d10 (l.setIfInBounds 2 true) (T.setIfInBounds d3 v) w' := by
  simp only [List.nodup_cons, List.mem_cons, not_or, List.not_mem_nil, not_false_iff, List.nodup_nil, and_true] at hd
  obtain ⟨⟨n01, n02, n03, n04, n05⟩, ⟨n12, n13, n14, n15⟩, ⟨n23, n24, n25⟩, ⟨n34, n35⟩, n45⟩ := hd
  have self : (T.setIfInBounds d3 v)[d3]? = some v := by rw [Array.getElem?_setIfInBounds_self_of_lt (by rw [h.sz]; exact hlt)]
  have oth : ∀ e, e ≠ d3 → (T.setIfInBounds d3 v)[e]? = T[e]? := fun e he => Array.getElem?_setIfInBounds_ne (fun e2 => he e2.symm)
  refine ⟨by rw [Array.size_setIfInBounds]; exact h.sz, fun k k1 k2 k3 k4 k9 k10 => (oth k (by assumption)).trans (h.off k k1 k2 k3 k4 k9 k10), h.fr.same fr, ?_, ?_, ?_, ?_, ?_, ?_, ?_, ?_⟩
  · intro hl; have hl2 : l.getD 0 false = true := by (rcases upd hl with e | e; (focus omega); exact e)
    exact (oth d1 (by omega)).trans (h.v1 hl2)
  · intro hl; have hl2 : l.getD 1 false = true := by (rcases upd hl with e | e; (focus omega); exact e)
    obtain ⟨b0, b2, b3, e0, e2, e3, h1, h2⟩ := h.v2 hl2; exact ⟨b0, b2, b3, e0, e2, e3, (oth d2 (by omega)).trans h1, h2.keepN fr⟩
  · intro _; rw [self, hv]
  · intro hl; have hl2 : l.getD 3 false = true := by (rcases upd hl with e | e; (focus omega); exact e)
    obtain ⟨b4, b5, e4, e5, h1, h2⟩ := h.v4 hl2; exact ⟨b4, b5, e4, e5, (oth d4 (by omega)).trans h1, h2.keepN fr⟩
  · intro hl; have hl2 : l.getD 4 false = true := by (rcases upd hl with e | e; (focus omega); exact e)
    obtain ⟨g, o, h1, h2, h3, h4, h5⟩ := h.v9 hl2; exact ⟨g, o, (oth d9 (by omega)).trans h1, h2, h3, fn_w fr h4, fun hx => (oth d2 (by omega)).trans (h5 (by rcases upd hx with e | e; (focus omega); exact e))⟩
  · intro hl; have hl2 : l.getD 5 false = true := by (rcases upd hl with e | e; (focus omega); exact e)
    obtain ⟨g, o, h1, h2, h3, h4, h5⟩ := h.v10 hl2; exact ⟨g, o, (oth d10 (by omega)).trans h1, h2, h3, fn_w fr h4, fun hx => (oth d4 (by omega)).trans (h5 (by rcases upd hx with e | e; (focus omega); exact e))⟩
  · intro hl; have := h.o6 (by rcases upd hl with e | e; (focus omega); exact e); exact ⟨keepL this.1, keepL this.2⟩
  · intro hl; have := h.o7 (by rcases upd hl with e | e; (focus omega); exact e); exact ⟨keepL this.1, keepL this.2⟩
theorem OwJ.s3 {V : World} {A fa pa : Array Value} {f : Fu} {p : Fm} {d1 d2 d3 d4 d9 d10 : Nat} {l : Array Bool} {T : Array Value} {w w' : World} {v : Value} (h : OwJ V A f p fa pa d1 d2 d3 d4 d9 d10 l T w) (hd : [d1, d2, d3, d4, d9, d10].Nodup) (hlt : d4 < A.size) (fr : Fr (fun _ => False) w w') (hv : ∃ b4 b5 e4 e5, v = .agg (fmV p b4 b5 e4 e5) ∧ FmO w' V.heap.size (.agg (fmV p b4 b5 e4 e5)) p) (hn7 : l.getD 7 false = false) : OwJ V A f p fa pa d1 d2 d3 d4 d9 d10 (l.setIfInBounds 3 true) (T.setIfInBounds d4 v) w' := by
  simp only [List.nodup_cons, List.mem_cons, not_or, List.not_mem_nil, not_false_iff, List.nodup_nil, and_true] at hd
  obtain ⟨⟨n01, n02, n03, n04, n05⟩, ⟨n12, n13, n14, n15⟩, ⟨n23, n24, n25⟩, ⟨n34, n35⟩, n45⟩ := hd
  have self : (T.setIfInBounds d4 v)[d4]? = some v := by rw [Array.getElem?_setIfInBounds_self_of_lt (by rw [h.sz]; exact hlt)]
  have oth : ∀ e, e ≠ d4 → (T.setIfInBounds d4 v)[e]? = T[e]? := fun e he => Array.getElem?_setIfInBounds_ne (fun e2 => he e2.symm)
  refine ⟨by rw [Array.size_setIfInBounds]; exact h.sz, fun k k1 k2 k3 k4 k9 k10 => (oth k (by assumption)).trans (h.off k k1 k2 k3 k4 k9 k10), h.fr.same fr, ?_, ?_, ?_, ?_, ?_, ?_, ?_, ?_⟩
  · intro hl; have hl2 : l.getD 0 false = true := by (rcases upd hl with e | e; (focus omega); exact e)
    exact (oth d1 (by omega)).trans (h.v1 hl2)
  · intro hl; have hl2 : l.getD 1 false = true := by (rcases upd hl with e | e; (focus omega); exact e)
    obtain ⟨b0, b2, b3, e0, e2, e3, h1, h2⟩ := h.v2 hl2; exact ⟨b0, b2, b3, e0, e2, e3, (oth d2 (by omega)).trans h1, h2.keepN fr⟩
  · intro hl; have hl2 : l.getD 2 false = true := by (rcases upd hl with e | e; (focus omega); exact e)
    exact (oth d3 (by omega)).trans (h.v3 hl2)
  · intro _; obtain ⟨b4, b5, e4, e5, rfl, hF⟩ := hv; exact ⟨b4, b5, e4, e5, self, hF⟩
  · intro hl; have hl2 : l.getD 4 false = true := by (rcases upd hl with e | e; (focus omega); exact e)
    obtain ⟨g, o, h1, h2, h3, h4, h5⟩ := h.v9 hl2; exact ⟨g, o, (oth d9 (by omega)).trans h1, h2, h3, fn_w fr h4, fun hx => (oth d2 (by omega)).trans (h5 (by rcases upd hx with e | e; (focus omega); exact e))⟩
  · intro hl; have hl2 : l.getD 5 false = true := by (rcases upd hl with e | e; (focus omega); exact e)
    obtain ⟨g, o, h1, h2, h3, h4, h5⟩ := h.v10 hl2; exact ⟨g, o, (oth d10 (by omega)).trans h1, h2, h3, fn_w fr h4, fun hx => by rcases upd hx with e | e; (focus omega); rw [hn7] at e; cases e⟩
  · intro hl; have := h.o6 (by rcases upd hl with e | e; (focus omega); exact e); exact ⟨keepL this.1, keepL this.2⟩
  · intro hl; have := h.o7 (by rcases upd hl with e | e; (focus omega); exact e); exact ⟨keepL this.1, keepL this.2⟩
theorem OwJ.s4 {V : World} {A fa pa : Array Value} {f : Fu} {p : Fm} {d1 d2 d3 d4 d9 d10 : Nat} {l : Array Bool} {T : Array Value} {w w' : World} {v : Value} (h : OwJ V A f p fa pa d1 d2 d3 d4 d9 d10 l T w) (hd : [d1, d2, d3, d4, d9, d10].Nodup) (hlt : d9 < A.size) (fr : Fr (fun _ => False) w w') (hv : ∃ g o, v = .pointer (some ⟨g, 0, none⟩) ∧ V.heap.size ≤ g ∧ o.size = 4 ∧ w'.heap[g]? = some (.cells o 37 (0, 0))) (hn6 : l.getD 6 false = false) : OwJ V A f p fa pa d1 d2 d3 d4 d9 d10 (l.setIfInBounds 4 true) (T.setIfInBounds d9 v) w' := by
  simp only [List.nodup_cons, List.mem_cons, not_or, List.not_mem_nil, not_false_iff, List.nodup_nil, and_true] at hd
  obtain ⟨⟨n01, n02, n03, n04, n05⟩, ⟨n12, n13, n14, n15⟩, ⟨n23, n24, n25⟩, ⟨n34, n35⟩, n45⟩ := hd
  have self : (T.setIfInBounds d9 v)[d9]? = some v := by rw [Array.getElem?_setIfInBounds_self_of_lt (by rw [h.sz]; exact hlt)]
  have oth : ∀ e, e ≠ d9 → (T.setIfInBounds d9 v)[e]? = T[e]? := fun e he => Array.getElem?_setIfInBounds_ne (fun e2 => he e2.symm)
  refine ⟨by rw [Array.size_setIfInBounds]; exact h.sz, fun k k1 k2 k3 k4 k9 k10 => (oth k (by assumption)).trans (h.off k k1 k2 k3 k4 k9 k10), h.fr.same fr, ?_, ?_, ?_, ?_, ?_, ?_, ?_, ?_⟩
  · intro hl; have hl2 : l.getD 0 false = true := by (rcases upd hl with e | e; (focus omega); exact e)
    exact (oth d1 (by omega)).trans (h.v1 hl2)
  · intro hl; have hl2 : l.getD 1 false = true := by (rcases upd hl with e | e; (focus omega); exact e)
    obtain ⟨b0, b2, b3, e0, e2, e3, h1, h2⟩ := h.v2 hl2; exact ⟨b0, b2, b3, e0, e2, e3, (oth d2 (by omega)).trans h1, h2.keepN fr⟩
  · intro hl; have hl2 : l.getD 2 false = true := by (rcases upd hl with e | e; (focus omega); exact e)
    exact (oth d3 (by omega)).trans (h.v3 hl2)
  · intro hl; have hl2 : l.getD 3 false = true := by (rcases upd hl with e | e; (focus omega); exact e)
    obtain ⟨b4, b5, e4, e5, h1, h2⟩ := h.v4 hl2; exact ⟨b4, b5, e4, e5, (oth d4 (by omega)).trans h1, h2.keepN fr⟩
  · intro _; obtain ⟨g, o, rfl, h1, h2, h3⟩ := hv; exact ⟨g, o, self, h1, h2, h3, fun hx => by rcases upd hx with e | e; (focus omega); rw [hn6] at e; cases e⟩
  · intro hl; have hl2 : l.getD 5 false = true := by (rcases upd hl with e | e; (focus omega); exact e)
    obtain ⟨g, o, h1, h2, h3, h4, h5⟩ := h.v10 hl2; exact ⟨g, o, (oth d10 (by omega)).trans h1, h2, h3, fn_w fr h4, fun hx => (oth d4 (by omega)).trans (h5 (by rcases upd hx with e | e; (focus omega); exact e))⟩
  · intro hl; have := h.o6 (by rcases upd hl with e | e; (focus omega); exact e); exact ⟨keepL this.1, keepL this.2⟩
  · intro hl; have := h.o7 (by rcases upd hl with e | e; (focus omega); exact e); exact ⟨keepL this.1, keepL this.2⟩
theorem OwJ.s5 {V : World} {A fa pa : Array Value} {f : Fu} {p : Fm} {d1 d2 d3 d4 d9 d10 : Nat} {l : Array Bool} {T : Array Value} {w w' : World} {v : Value} (h : OwJ V A f p fa pa d1 d2 d3 d4 d9 d10 l T w) (hd : [d1, d2, d3, d4, d9, d10].Nodup) (hlt : d10 < A.size) (fr : Fr (fun _ => False) w w') (hv : ∃ g o, v = .pointer (some ⟨g, 0, none⟩) ∧ V.heap.size ≤ g ∧ o.size = 2 ∧ w'.heap[g]? = some (.cells o 41 (0, 0))) (hn7 : l.getD 7 false = false) : OwJ V A f p fa pa d1 d2 d3 d4 d9 d10 (l.setIfInBounds 5 true) (T.setIfInBounds d10 v) w' := by
  simp only [List.nodup_cons, List.mem_cons, not_or, List.not_mem_nil, not_false_iff, List.nodup_nil, and_true] at hd
  obtain ⟨⟨n01, n02, n03, n04, n05⟩, ⟨n12, n13, n14, n15⟩, ⟨n23, n24, n25⟩, ⟨n34, n35⟩, n45⟩ := hd
  have self : (T.setIfInBounds d10 v)[d10]? = some v := by rw [Array.getElem?_setIfInBounds_self_of_lt (by rw [h.sz]; exact hlt)]
  have oth : ∀ e, e ≠ d10 → (T.setIfInBounds d10 v)[e]? = T[e]? := fun e he => Array.getElem?_setIfInBounds_ne (fun e2 => he e2.symm)
  refine ⟨by rw [Array.size_setIfInBounds]; exact h.sz, fun k k1 k2 k3 k4 k9 k10 => (oth k (by assumption)).trans (h.off k k1 k2 k3 k4 k9 k10), h.fr.same fr, ?_, ?_, ?_, ?_, ?_, ?_, ?_, ?_⟩
  · intro hl; have hl2 : l.getD 0 false = true := by (rcases upd hl with e | e; (focus omega); exact e)
    exact (oth d1 (by omega)).trans (h.v1 hl2)
  · intro hl; have hl2 : l.getD 1 false = true := by (rcases upd hl with e | e; (focus omega); exact e)
    obtain ⟨b0, b2, b3, e0, e2, e3, h1, h2⟩ := h.v2 hl2; exact ⟨b0, b2, b3, e0, e2, e3, (oth d2 (by omega)).trans h1, h2.keepN fr⟩
  · intro hl; have hl2 : l.getD 2 false = true := by (rcases upd hl with e | e; (focus omega); exact e)
    exact (oth d3 (by omega)).trans (h.v3 hl2)
  · intro hl; have hl2 : l.getD 3 false = true := by (rcases upd hl with e | e; (focus omega); exact e)
    obtain ⟨b4, b5, e4, e5, h1, h2⟩ := h.v4 hl2; exact ⟨b4, b5, e4, e5, (oth d4 (by omega)).trans h1, h2.keepN fr⟩
  · intro hl; have hl2 : l.getD 4 false = true := by (rcases upd hl with e | e; (focus omega); exact e)
    obtain ⟨g, o, h1, h2, h3, h4, h5⟩ := h.v9 hl2; exact ⟨g, o, (oth d9 (by omega)).trans h1, h2, h3, fn_w fr h4, fun hx => (oth d2 (by omega)).trans (h5 (by rcases upd hx with e | e; (focus omega); exact e))⟩
  · intro _; obtain ⟨g, o, rfl, h1, h2, h3⟩ := hv; exact ⟨g, o, self, h1, h2, h3, fun hx => by rcases upd hx with e | e; (focus omega); rw [hn7] at e; cases e⟩
  · intro hl; have := h.o6 (by rcases upd hl with e | e; (focus omega); exact e); exact ⟨keepL this.1, keepL this.2⟩
  · intro hl; have := h.o7 (by rcases upd hl with e | e; (focus omega); exact e); exact ⟨keepL this.1, keepL this.2⟩
theorem OwJ.s6 {V : World} {A fa pa : Array Value} {f : Fu} {p : Fm} {d1 d2 d3 d4 d9 d10 : Nat} {l : Array Bool} {T : Array Value} {w : World} {g : Nat} {o cs : Array Value} (h : OwJ V A f p fa pa d1 d2 d3 d4 d9 d10 l T w) (ho : w.heap[g]? = some (.cells o 37 (0, 0))) (hg : T[d9]? = some (.pointer (some ⟨g, 0, none⟩))) (hV : V.heap.size ≤ g) (hc : cs.size = 4) (hT : T[d2]? = some (.agg cs)) (l1 : l.getD 1 false = true) (l4 : l.getD 4 false = true) : OwJ V A f p fa pa d1 d2 d3 d4 d9 d10 (l.setIfInBounds 6 true) T (w.setRow g cs) := by
  have f1 := Fr.setRow w g cs
  refine ⟨h.sz, h.off, h.fr.over f1 (fun k e => by omega), ?_, ?_, ?_, ?_, ?_, ?_, fun hl => ⟨keepL l1, keepL l4⟩, fun hl => have q := h.o7 (by rcases upd hl with e | e; (focus omega); exact e); ⟨keepL q.1, keepL q.2⟩⟩
  · intro hl; exact h.v1 (by rcases upd hl with e | e; (focus omega); exact e)
  · intro hl; obtain ⟨b0, b2, b3, e0, e2, e3, h1, h2⟩ := h.v2 (by rcases upd hl with e | e; (focus omega); exact e); exact ⟨b0, b2, b3, e0, e2, e3, h1, h2.box ho t_ne.1 t_ne.2.1 f1⟩
  · intro hl; exact h.v3 (by rcases upd hl with e | e; (focus omega); exact e)
  · intro hl; obtain ⟨b4, b5, e4, e5, h1, h2⟩ := h.v4 (by rcases upd hl with e | e; (focus omega); exact e); exact ⟨b4, b5, e4, e5, h1, h2.box ho t_ne.1 t_ne.2.2.1 f1⟩
  · intro hl; exact ⟨g, cs, hg, hV, hc, setRow_heap w g _ cs _ _ ho, fun _ => hT⟩
  · intro hl; obtain ⟨g2, o2, h1, h2, h3, h4, h5⟩ := h.v10 (by rcases upd hl with e | e; (focus omega); exact e)
    refine ⟨g2, o2, h1, h2, h3, (setRow_other w g g2 cs ?_).trans h4, fun hx => h5 (by rcases upd hx with e | e; (focus omega); exact e)⟩
    rintro rfl
    rw [ho] at h4
    simp only [Option.some.injEq, Obj.cells.injEq] at h4
    exact absurd h4.2.1 (by decide)
theorem OwJ.s7 {V : World} {A fa pa : Array Value} {f : Fu} {p : Fm} {d1 d2 d3 d4 d9 d10 : Nat} {l : Array Bool} {T : Array Value} {w : World} {g : Nat} {o cs : Array Value} (h : OwJ V A f p fa pa d1 d2 d3 d4 d9 d10 l T w) (ho : w.heap[g]? = some (.cells o 41 (0, 0))) (hg : T[d10]? = some (.pointer (some ⟨g, 0, none⟩))) (hV : V.heap.size ≤ g) (hc : cs.size = 2) (hT : T[d4]? = some (.agg cs)) (l3 : l.getD 3 false = true) (l5 : l.getD 5 false = true) : OwJ V A f p fa pa d1 d2 d3 d4 d9 d10 (l.setIfInBounds 7 true) T (w.setRow g cs) := by
  have f1 := Fr.setRow w g cs
  refine ⟨h.sz, h.off, h.fr.over f1 (fun k e => by omega), ?_, ?_, ?_, ?_, ?_, ?_, fun hl => have q := h.o6 (by rcases upd hl with e | e; (focus omega); exact e); ⟨keepL q.1, keepL q.2⟩, fun hl => ⟨keepL l3, keepL l5⟩⟩
  · intro hl; exact h.v1 (by rcases upd hl with e | e; (focus omega); exact e)
  · intro hl; obtain ⟨b0, b2, b3, e0, e2, e3, h1, h2⟩ := h.v2 (by rcases upd hl with e | e; (focus omega); exact e); exact ⟨b0, b2, b3, e0, e2, e3, h1, h2.box ho int_fr t_ne.2.2.2.1 f1⟩
  · intro hl; exact h.v3 (by rcases upd hl with e | e; (focus omega); exact e)
  · intro hl; obtain ⟨b4, b5, e4, e5, h1, h2⟩ := h.v4 (by rcases upd hl with e | e; (focus omega); exact e); exact ⟨b4, b5, e4, e5, h1, h2.box ho int_fr t_ne.2.2.2.2 f1⟩
  · intro hl; obtain ⟨g2, o2, h1, h2, h3, h4, h5⟩ := h.v9 (by rcases upd hl with e | e; (focus omega); exact e)
    refine ⟨g2, o2, h1, h2, h3, (setRow_other w g g2 cs ?_).trans h4, fun hx => h5 (by rcases upd hx with e | e; (focus omega); exact e)⟩
    rintro rfl
    rw [ho] at h4
    simp only [Option.some.injEq, Obj.cells.injEq] at h4
    exact absurd h4.2.1 (by decide)
  · intro hl; exact ⟨g, cs, hg, hV, hc, setRow_heap w g _ cs _ _ ho, fun _ => hT⟩
abbrev zFa : Array Value := #[.slice none 0 0, ci 0, .slice none 0 0, .slice none 0 0]
abbrev zPa : Array Value := #[.slice none 0 0, .slice none 0 0]
abbrev ownOps (ps : String) (s4 s5 d1 d2 d3 d4 d9 d10 : Nat) : List Oper :=
  [{ dst := some d1, op := .load 27 (.tmp s4), type := 27, pos := ps, after := #[], guard := none },
   { dst := some d2, op := .call { callee := .value (.func 6), args := #[.tmp d1], argTypes := #[27] }, type := 37, pos := ps, after := #[{ on := 0, ground := .data }], guard := none },
   { dst := some d3, op := .load 30 (.tmp s5), type := 30, pos := ps, after := #[], guard := none },
   { dst := some d4, op := .call { callee := .value (.func 7), args := #[.tmp d3], argTypes := #[30] }, type := 41, pos := ps, after := #[{ on := 2, ground := .data }, { on := 1, ground := .chain }], guard := none },
   { dst := some d9, op := .alloc 37, type := 0, pos := ps, after := #[], guard := none },
   { dst := some d10, op := .alloc 41, type := 0, pos := ps, after := #[], guard := none },
   { dst := none, op := .store 37 (.tmp d9) (.tmp d2), type := 0, pos := ps, after := #[{ on := 4, ground := .data }, { on := 1, ground := .data }, { on := 3, ground := .chain }, { on := 0, ground := .phase }, { on := 1, ground := .phase }, { on := 2, ground := .textOnly .lateStores }, { on := 3, ground := .textOnly .lateStoresUnsure }, { on := 4, ground := .phase }, { on := 5, ground := .phase }], guard := none },
   { dst := none, op := .store 41 (.tmp d10) (.tmp d4), type := 0, pos := ps, after := #[{ on := 5, ground := .data }, { on := 3, ground := .data }, { on := 6, ground := .chain }, { on := 0, ground := .phase }, { on := 1, ground := .phase }, { on := 2, ground := .phase }, { on := 3, ground := .phase }, { on := 4, ground := .phase }, { on := 5, ground := .phase }, { on := 6, ground := .phase }], guard := none }]
theorem own_deps (ps : String) (s4 s5 d1 d2 d3 d4 d9 d10 : Nat) : let ops := (ownOps ps s4 s5 d1 d2 d3 d4 d9 d10).toArray
    depsLow ops = true ∧ depsOf ops 1 = [0] ∧ depsOf ops 3 = [2, 1] ∧ ((depsOf ops 6).contains 4 = true ∧ (depsOf ops 6).contains 1 = true) ∧ ((depsOf ops 7).contains 5 = true ∧ (depsOf ops 7).contains 3 = true) := by
  exact ⟨by kernel_rfl, by kernel_rfl, by kernel_rfl, ⟨by kernel_rfl, by kernel_rfl⟩, ⟨by kernel_rfl, by kernel_rfl⟩⟩

/-- The region, whatever its order: both values in boxes of their own. -/
theorem own_region {Q : Exit → Act → World → Prop} {id : Nat} {ps : String} {s4 s5 d1 d2 d3 d4 d9 d10 : Nat} {A : Array Value} {df : List Deferred} {V : World} (f : Fu) (p : Fm) (fa pa : Array Value) (G4 G5 : Nat) (hfz : fa.size = 4) (hpz : pa.size = 2)
    (hd : [d1, d2, d3, d4, d9, d10].Nodup) (h4 : s4 ∉ [d1, d2, d3, d4, d9, d10]) (h5 : s5 ∉ [d1, d2, d3, d4, d9, d10]) (hlt : ∀ d ∈ [d1, d2, d3, d4, d9, d10], d < A.size)
    (a4 : A[s4]? = some (.pointer (some ⟨G4, 0, none⟩))) (a5 : A[s5]? = some (.pointer (some ⟨G5, 0, none⟩)))
    (r4 : V.heap[G4]? = some (.cells fa 27 (0, 0))) (r5 : V.heap[G5]? = some (.cells pa 30 (0, 0)))
    (kF : ∀ W, Fr (fun _ => False) V W → Calls Tryz.prog 6 #[.agg fa] W fun e w' => ∃ b0 b2 b3 e0 e2 e3, e = .returned (.agg (fnV f b0 b2 b3 e0 e2 e3)) ∧ FnO w' V.heap.size (.agg (fnV f b0 b2 b3 e0 e2 e3)) f ∧ Fr (fun _ => False) W w')
    (kP : ∀ W, Fr (fun _ => False) V W → Calls Tryz.prog 7 #[.agg pa] W fun e w' => ∃ b4 b5 e4 e5, e = .returned (.agg (fmV p b4 b5 e4 e5)) ∧ FmO w' V.heap.size (.agg (fmV p b4 b5 e4 e5)) p ∧ Fr (fun _ => False) W w')
    (h : ∀ wx x1 x3 g9 g10 b0 b2 b3 b4 b5 e0 e2 e3 e4 e5, wx.heap[g9]? = some (.cells (fnV f b0 b2 b3 e0 e2 e3) 37 (0, 0)) → wx.heap[g10]? = some (.cells (fmV p b4 b5 e4 e5) 41 (0, 0)) → FnO wx V.heap.size (.agg (fnV f b0 b2 b3 e0 e2 e3)) f → FmO wx V.heap.size (.agg (fmV p b4 b5 e4 e5)) p →
      V.heap.size ≤ g9 → V.heap.size ≤ g10 → Fr (fun _ => False) V wx → Q .normal { tmps := (((((A.setIfInBounds d1 x1).setIfInBounds d2 (.agg (fnV f b0 b2 b3 e0 e2 e3))).setIfInBounds d3 x3).setIfInBounds d4 (.agg (fmV p b4 b5 e4 e5))).setIfInBounds d9 (.pointer (some ⟨g9, 0, none⟩))).setIfInBounds d10 (.pointer (some ⟨g10, 0, none⟩)), defers := df } wx) :
    (Code.region id (ownOps ps s4 s5 d1 d2 d3 d4 d9 d10).toArray true).wp Tryz.prog Q { tmps := A, defers := df } V := by
  obtain ⟨hl, e1, e3, ⟨q64, q61⟩, ⟨q75, q73⟩⟩ := own_deps ps s4 s5 d1 d2 d3 d4 d9 d10
  have m4 : s4 ≠ d1 ∧ s4 ≠ d2 ∧ s4 ≠ d3 ∧ s4 ≠ d4 ∧ s4 ≠ d9 ∧ s4 ≠ d10 := by simpa [not_or] using h4
  have m5 : s5 ≠ d1 ∧ s5 ≠ d2 ∧ s5 ≠ d3 ∧ s5 ≠ d4 ∧ s5 ≠ d9 ∧ s5 ≠ d10 := by simpa [not_or] using h5
  refine wp_region_inv (fun l a w => ∃ T, a = { tmps := T, defers := df } ∧ OwJ V A f p fa pa d1 d2 d3 d4 d9 d10 l T w) (by kernel_rfl) hl ?_ ?_ ?_
  · refine ⟨A, rfl, ⟨rfl, fun _ _ _ _ _ _ _ => rfl, Fr.drew _ _, ?_, ?_, ?_, ?_, ?_, ?_, ?_, ?_⟩⟩ <;> (intro hx; exact absurd hx (by simp [Array.getD_eq_getD_getElem?]))
  · rintro l a w i hz ⟨T, rfl, J⟩ hn hi hdep
    have hi8 : i < 8 := hi
    have lz : ∀ d ∈ [d1, d2, d3, d4, d9, d10], d < A.size := hlt
    have hn2 := not_l hn
    rcases i with _ | _ | _ | _ | _ | _ | _ | _ | i
    · refine wpOp_at { dst := some d1, op := .load 27 (.tmp s4), type := 27, pos := ps, after := #[], guard := none } rfl rfl fun K hK => ?_
      exact wp_load_row 27 (.tmp s4) rfl G4 (eval_at ((J.off s4 m4.1 m4.2.1 m4.2.2.1 m4.2.2.2.1 m4.2.2.2.2.1 m4.2.2.2.2.2).trans a4)) 27 fa (0, 0) _ (fn_w J.fr r4) Tryz.underlying27 rfl (by rw [hfz]; kernel_rfl)
        (hK _ _ ⟨_, rfl, J.s0 hd (hlt _ (by simp)) (Fr.refl _ _) rfl⟩)
    · have l0 : l.getD 0 false = true := hdep 0 (by rw [e1]; simp)
      refine wpOp_at { dst := some d2, op := .call { callee := .value (.func 6), args := #[.tmp d1], argTypes := #[27] }, type := 37, pos := ps, after := #[{ on := 0, ground := .data }], guard := none } rfl rfl fun K hK => ?_
      have hev := eval_at (d := df) (J.v1 l0)
      have hn6 : l.getD 6 false = false := by cases h6 : l.getD 6 false; rfl; have := (J.o6 h6).1; rw [hn2] at this; cases this
      have hev2 : T.getD d1 undef = .agg fa := hev
      go_simp
      refine (kF w J.fr).mono ?_
      rintro e w' ⟨b0, b2, b3, c0, c2, c3, rfl, hF, fw⟩
      exact hK _ _ ⟨_, rfl, J.s1 hd (hlt _ (by simp)) fw ⟨_, _, _, _, _, _, rfl, hF⟩ hn6⟩
    · refine wpOp_at { dst := some d3, op := .load 30 (.tmp s5), type := 30, pos := ps, after := #[], guard := none } rfl rfl fun K hK => ?_
      exact wp_load_row 30 (.tmp s5) rfl G5 (eval_at ((J.off s5 m5.1 m5.2.1 m5.2.2.1 m5.2.2.2.1 m5.2.2.2.2.1 m5.2.2.2.2.2).trans a5)) 30 pa (0, 0) _ (fn_w J.fr r5) Tryz.underlying30 rfl (by rw [hpz]; kernel_rfl)
        (hK _ _ ⟨_, rfl, J.s2 hd (hlt _ (by simp)) (Fr.refl _ _) rfl⟩)
    · have l2 : l.getD 2 false = true := hdep 2 (by rw [e3]; simp)
      refine wpOp_at { dst := some d4, op := .call { callee := .value (.func 7), args := #[.tmp d3], argTypes := #[30] }, type := 41, pos := ps, after := #[{ on := 2, ground := .data }, { on := 1, ground := .chain }], guard := none } rfl rfl fun K hK => ?_
      have hev := eval_at (d := df) (J.v3 l2)
      have hn7 : l.getD 7 false = false := by cases h7 : l.getD 7 false; rfl; have := (J.o7 h7).1; rw [hn2] at this; cases this
      have hev2 : T.getD d3 undef = .agg pa := hev
      go_simp
      refine (kP w J.fr).mono ?_
      rintro e w' ⟨b4, b5, c4, c5, rfl, hF, fw⟩
      exact hK _ _ ⟨_, rfl, J.s3 hd (hlt _ (by simp)) fw ⟨_, _, _, _, rfl, hF⟩ hn7⟩
    · refine wpOp_at { dst := some d9, op := .alloc 37, type := 0, pos := ps, after := #[], guard := none } rfl rfl fun K hK => ?_
      have hn6 : l.getD 6 false = false := by cases h6 : l.getD 6 false; rfl; have := (J.o6 h6).2; rw [hn2] at this; cases this
      go_simp
      exact hK _ _ ⟨_, rfl, J.s4 hd (hlt _ (by simp)) (Fr.alloc _ _ _) ⟨_, zFa, rfl, J.fr.size, rfl, alloc_new _ _⟩ hn6⟩
    · refine wpOp_at { dst := some d10, op := .alloc 41, type := 0, pos := ps, after := #[], guard := none } rfl rfl fun K hK => ?_
      have hn7 : l.getD 7 false = false := by cases h7 : l.getD 7 false; rfl; have := (J.o7 h7).2; rw [hn2] at this; cases this
      go_simp
      exact hK _ _ ⟨_, rfl, J.s5 hd (hlt _ (by simp)) (Fr.alloc _ _ _) ⟨_, zPa, rfl, J.fr.size, rfl, alloc_new _ _⟩ hn7⟩
    · have l4 : l.getD 4 false = true := hdep 4 (List.contains_iff_mem.1 q64)
      have l1 : l.getD 1 false = true := hdep 1 (List.contains_iff_mem.1 q61)
      obtain ⟨g, o, t1, t2, t3, t4, _⟩ := J.v9 l4
      obtain ⟨b0, b2, b3, c0, c2, c3, t6, _⟩ := J.v2 l1
      refine wpOp_at { dst := none, op := .store 37 (.tmp d9) (.tmp d2), type := 0, pos := ps, after := #[{ on := 4, ground := .data }, { on := 1, ground := .data }, { on := 3, ground := .chain }, { on := 0, ground := .phase }, { on := 1, ground := .phase }, { on := 2, ground := .textOnly .lateStores }, { on := 3, ground := .textOnly .lateStoresUnsure }, { on := 4, ground := .phase }, { on := 5, ground := .phase }], guard := none } rfl rfl fun K hK => ?_
      exact wp_store_row 37 (.tmp d9) (.tmp d2) rfl g _ (eval_at t1) (eval_at t6) 37 o t4 (by kernel_rfl) t3 (by simp [Value.oneCell']) (hK _ _ ⟨T, rfl, J.s6 t4 t1 t2 rfl t6 l1 l4⟩)
    · have l5 : l.getD 5 false = true := hdep 5 (List.contains_iff_mem.1 q75)
      have l3 : l.getD 3 false = true := hdep 3 (List.contains_iff_mem.1 q73)
      obtain ⟨g, o, t1, t2, t3, t4, _⟩ := J.v10 l5
      obtain ⟨b4, b5, c4, c5, t6, _⟩ := J.v4 l3
      refine wpOp_at { dst := none, op := .store 41 (.tmp d10) (.tmp d4), type := 0, pos := ps, after := #[{ on := 5, ground := .data }, { on := 3, ground := .data }, { on := 6, ground := .chain }, { on := 0, ground := .phase }, { on := 1, ground := .phase }, { on := 2, ground := .phase }, { on := 3, ground := .phase }, { on := 4, ground := .phase }, { on := 5, ground := .phase }, { on := 6, ground := .phase }], guard := none } rfl rfl fun K hK => ?_
      exact wp_store_row 41 (.tmp d10) (.tmp d4) rfl g _ (eval_at t1) (eval_at t6) 41 o t4 (by kernel_rfl) t3 (by simp [Value.oneCell']) (hK _ _ ⟨T, rfl, J.s7 t4 t1 t2 rfl t6 l3 l5⟩)
    · omega
  · rintro l a w hz hall ⟨T, rfl, J⟩
    have L : ∀ k, k < 8 → l.getD k false = true := fun k hk => by
      have h1 := hall k hk
      have h2 : k < l.size := by rw [hz]; exact hk
      rw [Array.getD_eq_getD_getElem?, Array.getElem?_eq_getElem h2] at h1 ⊢
      exact h1
    have t1 := J.v1 (L 0 (by omega))
    obtain ⟨b0, b2, b3, c0, c2, c3, t2, hF⟩ := J.v2 (L 1 (by omega))
    have t3 := J.v3 (L 2 (by omega))
    obtain ⟨b4, b5, c4, c5, t4, hP⟩ := J.v4 (L 3 (by omega))
    obtain ⟨g9, o9, t9, u1, u2, u3, u4⟩ := J.v9 (L 4 (by omega))
    obtain ⟨g10, o10, t10, v1, v2, v3, v4⟩ := J.v10 (L 5 (by omega))
    obtain rfl : o9 = fnV f b0 b2 b3 c0 c2 c3 := by have := (u4 (L 6 (by omega))).symm.trans t2; simpa using this
    obtain rfl : o10 = fmV p b4 b5 c4 c5 := by have := (v4 (L 7 (by omega))).symm.trans t4; simpa using this
    have := h w (.agg fa) (.agg pa) g9 g10 b0 b2 b3 b4 b5 c0 c2 c3 c4 c5 u3 v3 hF hP u1 v1 J.fr
    have e : T = (((((A.setIfInBounds d1 (.agg fa)).setIfInBounds d2 (.agg (fnV f b0 b2 b3 c0 c2 c3))).setIfInBounds d3 (.agg pa)).setIfInBounds d4 (.agg (fmV p b4 b5 c4 c5))).setIfInBounds d9 (.pointer (some ⟨g9, 0, none⟩))).setIfInBounds d10 (.pointer (some ⟨g10, 0, none⟩)) := by
      have hd2 := hd
      simp only [List.nodup_cons, List.mem_cons, not_or, List.not_mem_nil, not_false_iff, List.nodup_nil, and_true] at hd2
      obtain ⟨⟨n01, n02, n03, n04, n05⟩, ⟨n12, n13, n14, n15⟩, ⟨n23, n24, n25⟩, ⟨n34, n35⟩, n45⟩ := hd2
      have z1 := hlt d1 (by simp)
      have z2 := hlt d2 (by simp)
      have z3 := hlt d3 (by simp)
      have z4 := hlt d4 (by simp)
      have z9 := hlt d9 (by simp)
      have z10 := hlt d10 (by simp)
      apply Array.ext_getElem?
      intro k
      simp only [Array.getElem?_setIfInBounds, Array.size_setIfInBounds]
      by_cases k10 : d10 = k
      · subst k10; rw [if_pos rfl, if_pos z10]; exact t10
      rw [if_neg k10]
      by_cases k9 : d9 = k
      · subst k9; rw [if_pos rfl, if_pos z9]; exact t9
      rw [if_neg k9]
      by_cases k4 : d4 = k
      · subst k4; rw [if_pos rfl, if_pos z4]; exact t4
      rw [if_neg k4]
      by_cases k3 : d3 = k
      · subst k3; rw [if_pos rfl, if_pos z3]; exact t3
      rw [if_neg k3]
      by_cases k2 : d2 = k
      · subst k2; rw [if_pos rfl, if_pos z2]; exact t2
      rw [if_neg k2]
      by_cases k1 : d1 = k
      · subst k1; rw [if_pos rfl, if_pos z1]; exact t1
      rw [if_neg k1]
      exact J.off k (fun e => k1 e.symm) (fun e => k2 e.symm) (fun e => k3 e.symm) (fun e => k4 e.symm) (fun e => k9 e.symm) (fun e => k10 e.symm)
    rw [e]
    exact this
end Go.Proofs.YtnmcehpdiopaiaaGreatDoor.Cd

namespace Go.Proofs.YtnmcehpdiopaiaaGreatDoor.Cd
open Go.RowKit Ty
set_option linter.unusedSimpArgs false
set_option linter.unusedVariables false

theorem fi_lit {w : World} {B B' : Nat} {f : Fu} {p : Fm} {b0 b2 b3 b4 b5 : Option Addr} {e0 e2 e3 e4 e5 : Nat} (hF : FnO w B (.agg (fnV f b0 b2 b3 e0 e2 e3)) f) (hP : FmO w B' (.agg (fmV p b4 b5 e4 e5)) p) (hok : ∀ i ∈ f.cd, OkIn i) (hps : ∀ g ∈ p.fns, g.ps.length ≤ 17592186044416) (ht : F.Tab w) :
    Fi w f p b0 b2 b3 b4 b5 e0 e2 e3 e4 e5 := by
  obtain ⟨vp, vl, vc, e, h1, h2, h3⟩ := hF
  obtain ⟨v4, v5, e', h4, h5⟩ := hP
  simp only [Value.agg.injEq, Array.mk.injEq, List.cons.injEq, and_true, true_and] at e e'
  obtain ⟨rfl, rfl, rfl⟩ := e
  obtain ⟨rfl, rfl⟩ := e'
  obtain ⟨_, _, q0, i0⟩ := h1.inl
  obtain ⟨_, _, q2, i2⟩ := h2.inl
  obtain ⟨_, _, q3, i3⟩ := h3.il
  obtain ⟨_, _, q4, i4⟩ := h4.sgl
  obtain ⟨_, _, q5, i5⟩ := h5.inl
  simp only [Value.slice.injEq, true_and] at q0 q2 q3 q4 q5
  obtain ⟨rfl, rfl⟩ := q0
  obtain ⟨rfl, rfl⟩ := q2
  obtain ⟨rfl, rfl⟩ := q3
  obtain ⟨rfl, rfl⟩ := q4
  obtain ⟨rfl, rfl⟩ := q5
  exact ⟨i0, i2, i3, i4, i5, hok, hps, ht⟩
theorem shp_len (f : Fu) (p : Fm) (a : Int) : (shL (shpS f p a)).length ≤ 512 := by
  unfold shpS
  split
  · simp [shL]
  rename_i h
  simp only [not_or, Classical.not_not] at h
  obtain ⟨L, h1, h2, h3, h4, _⟩ := ver_fin h.1
  have inv := fin_inv h2 h3 h4
  rw [h1]
  unfold atS
  rw [Option.bind_some]
  cases hc : L[a.toNat]? with
  | none => simp [shL]
  | some c =>
    rw [Option.bind_some]
    cases c with
    | none => simp [shL]
    | some z =>
      obtain ⟨g, s⟩ := z
      exact (over_len (inv.ov _ _ _ hc)).1
theorem own_atL {w : World} {B : Nat} {e : TypeId} {size : Nat} {v : Value} {n : Nat} {cells : List Value} (h : w.ownsRow B e size v n cells) (j : Nat) (hj : j < cells.length) :
    ∃ g cap cur, v = .slice (some ⟨g, 0, none⟩) n cap ∧ B ≤ g ∧ n ≤ cap ∧ cap ≤ maxLen ∧ w.heap[g]? = some (.cells cur e (0, 0)) ∧ (∀ (i : Nat) (u : Value), cells[i]? = some u → w.cell? ⟨g, i, none⟩ = some u) ∧
      (∀ i, w.frozen? ⟨g, i, none⟩ = false) ∧ ∀ u, (w.setCell ⟨g, j, none⟩ u).ownsRow B e size v n (cells.set j u) := by
  obtain ⟨hl, hh⟩ := h
  rcases hh with ⟨rfl, rfl⟩ | ⟨g, cap, cur, rfl, hb, hg, hnc, hcm, hcs, ht⟩
  · rw [Nat.zero_mul] at hl; omega
  · refine ⟨g, cap, cur, rfl, hb, hnc, hcm, hg, fun i u hu => ?_, fun i => fz_row hg i, fun u => ⟨by rw [List.length_set]; exact hl, Or.inr ⟨g, cap, cur.setIfInBounds j u, rfl, hb, heap_setCell_same w g j cur e u hg, hnc, hcm, by simpa using hcs, ?_⟩⟩⟩
    · rw [cell_of_row w g _ cur e (0, 0) hg]
      rw [← ht, List.getElem?_take] at hu
      split at hu
      · simpa using hu
      · cases hu
    · rw [← ht]
      simp [List.take_set]
theorem flat_set4 : ∀ (l : List In) (k : Nat) (x : In), k < l.length → ((((l.flatMap inC).set (k * 4) (ci x.op)).set (k * 4 + 1) (ci x.n)).set (k * 4 + 2) (ci x.t)).set (k * 4 + 3) (.int .u64 x.b) = (l.set k x).flatMap inC
  | [], k, x, h => by simp at h
  | y :: r, 0, x, h => rfl
  | y :: r, k + 1, x, h => by
    have ih := flat_set4 r k x (by simpa using h)
    rw [List.set_cons_succ, List.flatMap_cons, List.flatMap_cons, ← ih]
    rw [show (k + 1) * 4 + 1 = (inC y).length + (k * 4 + 1) by rw [inC_len]; omega, show (k + 1) * 4 + 2 = (inC y).length + (k * 4 + 2) by rw [inC_len]; omega, show (k + 1) * 4 + 3 = (inC y).length + (k * 4 + 3) by rw [inC_len]; omega, show (k + 1) * 4 = (inC y).length + k * 4 by rw [inC_len]; omega]
    rw [List.set_append_right _ _ (by omega), List.set_append_right _ _ (by omega), List.set_append_right _ _ (by omega), List.set_append_right _ _ (by omega)]
    rw [show (inC y).length + k * 4 - (inC y).length = k * 4 by omega, show (inC y).length + (k * 4 + 1) - (inC y).length = k * 4 + 1 by omega, show (inC y).length + (k * 4 + 2) - (inC y).length = k * 4 + 2 by omega, show (inC y).length + (k * 4 + 3) - (inC y).length = k * 4 + 3 by omega]
abbrev set4 (w : World) (g k : Nat) (x : In) : World := (((w.setCell ⟨g, k * 4, none⟩ (ci x.op)).setCell ⟨g, k * 4 + 1, none⟩ (ci x.n)).setCell ⟨g, k * 4 + 2, none⟩ (ci x.t)).setCell ⟨g, k * 4 + 3, none⟩ (.int .u64 x.b)
theorem set4_fr (w : World) (g k : Nat) (x : In) : Fr (fun j => j = g) w (set4 w g k x) :=
  ((((Fr.setCell w ⟨g, k * 4, none⟩ _).same (Fr.setCell _ ⟨g, k * 4 + 1, none⟩ _)).same (Fr.setCell _ ⟨g, k * 4 + 2, none⟩ _)).same (Fr.setCell _ ⟨g, k * 4 + 3, none⟩ _))
theorem own_at4 {w : World} {B : Nat} {v : Value} {l : List In} (h : IW w B 64 v l) (k : Nat) (hk : k < l.length) (x : In) :
    ∃ g cap cur, v = .slice (some ⟨g, 0, none⟩) l.length cap ∧ B ≤ g ∧ w.heap[g]? = some (.cells cur 64 (0, 0)) ∧ l.length ≤ cap ∧ cap ≤ maxLen ∧ (∃ u0 u1 u2 u3, w.cell? ⟨g, k * 4, none⟩ = some u0 ∧ w.cell? ⟨g, k * 4 + 1, none⟩ = some u1 ∧ w.cell? ⟨g, k * 4 + 2, none⟩ = some u2 ∧ w.cell? ⟨g, k * 4 + 3, none⟩ = some u3) ∧ (∀ i, w.frozen? ⟨g, i, none⟩ = false) ∧ IW (set4 w g k x) B 64 v (l.set k x) := by
  have hfl := flat_len l
  have hget : ∀ j, j < l.length * 4 → ∃ u, (l.flatMap inC)[j]? = some u := fun j hj => ⟨_, List.getElem?_eq_getElem (by rw [hfl]; exact hj)⟩
  obtain ⟨g, cap, cur, rfl, hB, hc, hm, hg, hcell, hfz, h1⟩ := own_atL h (k * 4) (by rw [hfl]; omega)
  have i1 := h1 (ci x.op)
  obtain ⟨g', cap', cur', e', _, _, _, _, _, _, h2⟩ := own_atL i1 (k * 4 + 1) (by rw [List.length_set, hfl]; omega)
  simp only [Value.slice.injEq, Option.some.injEq, Addr.mk.injEq, and_true, true_and] at e'
  obtain ⟨rfl, rfl⟩ := e'
  have i2 := h2 (ci x.n)
  obtain ⟨g', cap', cur', e', _, _, _, _, _, _, h3⟩ := own_atL i2 (k * 4 + 2) (by rw [List.length_set, List.length_set, hfl]; omega)
  simp only [Value.slice.injEq, Option.some.injEq, Addr.mk.injEq, and_true, true_and] at e'
  obtain ⟨rfl, rfl⟩ := e'
  have i3 := h3 (ci x.t)
  obtain ⟨g', cap', cur', e', _, _, _, _, _, _, h4⟩ := own_atL i3 (k * 4 + 3) (by rw [List.length_set, List.length_set, List.length_set, hfl]; omega)
  simp only [Value.slice.injEq, Option.some.injEq, Addr.mk.injEq, and_true, true_and] at e'
  obtain ⟨rfl, rfl⟩ := e'
  have i4 := h4 (.int .u64 x.b)
  rw [flat_set4 l k x hk] at i4
  obtain ⟨u0, q0⟩ := hget (k * 4) (by omega)
  obtain ⟨u1, q1⟩ := hget (k * 4 + 1) (by omega)
  obtain ⟨u2, q2⟩ := hget (k * 4 + 2) (by omega)
  obtain ⟨u3, q3⟩ := hget (k * 4 + 3) (by omega)
  refine ⟨g, cap, cur, rfl, hB, hg, hc, hm, ⟨u0, u1, u2, u3, hcell _ _ q0, hcell _ _ q1, hcell _ _ q2, hcell _ _ q3⟩, hfz, ?_⟩
  unfold IW
  rw [List.length_set]
  exact i4
/-- The other function, once its instruction is written anew. -/
theorem other_at {w : World} {B : Nat} {f : Fu} {b0 b2 b3 : Option Addr} {e0 e2 e3 : Nat} (hF : FnO w B (.agg (fnV f b0 b2 b3 e0 e2 e3)) f) (k : Nat) (hk : k < f.cd.length) (x : In) :
    ∃ g cur, b3 = some ⟨g, 0, none⟩ ∧ B ≤ g ∧ w.heap[g]? = some (.cells cur 64 (0, 0)) ∧ f.cd.length ≤ e3 ∧ e3 ≤ maxLen ∧ (∃ u0 u1 u2 u3, w.cell? ⟨g, k * 4, none⟩ = some u0 ∧ w.cell? ⟨g, k * 4 + 1, none⟩ = some u1 ∧ w.cell? ⟨g, k * 4 + 2, none⟩ = some u2 ∧ w.cell? ⟨g, k * 4 + 3, none⟩ = some u3) ∧ (∀ i, w.frozen? ⟨g, i, none⟩ = false) ∧
      FnO (set4 w g k x) B (.agg (fnV { f with cd := f.cd.set k x } b0 b2 b3 e0 e2 e3)) { f with cd := f.cd.set k x } := by
  obtain ⟨vp, vl, vc, e, h1, h2, h3⟩ := hF
  simp only [Value.agg.injEq, Array.mk.injEq, List.cons.injEq, and_true, true_and] at e
  obtain ⟨rfl, rfl, rfl⟩ := e
  obtain ⟨g, cap, cur, q, hB, hg, hc, hm, hcell, hfz, h4⟩ := own_at4 h3 k hk x
  simp only [Value.slice.injEq, true_and] at q
  obtain ⟨rfl, rfl⟩ := q
  have fr := set4_fr w g k x
  refine ⟨g, cur, rfl, hB, hg, hc, hm, hcell, hfz, ⟨_, _, _, rfl, own_keep h1 fr (fun j e e2 => ?_), own_keep h2 fr (fun j e e2 => ?_), ?_⟩⟩
  · subst e2; exact own_types h1 h3 int_ins e rfl
  · subst e2; exact own_types h2 h3 int_ins e rfl
  · show IW _ _ _ (.slice _ (f.cd.set k x).length _) _
    rw [List.length_set]
    exact h4
/-- The other function with the program of the first one. -/
theorem fi_other {w : World} {B : Nat} {f f' : Fu} {p : Fm} {b0 b2 b3 b4 b5 m0 m2 m3 : Option Addr} {e0 e2 e3 e4 e5 n0 n2 n3 : Nat} (hF : FnO w B (.agg (fnV f' m0 m2 m3 n0 n2 n3)) f') (h : Fi w f p b0 b2 b3 b4 b5 e0 e2 e3 e4 e5) (hok : ∀ i ∈ f'.cd, OkIn i) :
    Fi w f' p m0 m2 m3 b4 b5 n0 n2 n3 e4 e5 := by
  obtain ⟨vp, vl, vc, e, h1, h2, h3⟩ := hF
  simp only [Value.agg.injEq, Array.mk.injEq, List.cons.injEq, and_true, true_and] at e
  obtain ⟨rfl, rfl, rfl⟩ := e
  obtain ⟨_, _, q0, i0⟩ := h1.inl
  obtain ⟨_, _, q2, i2⟩ := h2.inl
  obtain ⟨_, _, q3, i3⟩ := h3.il
  simp only [Value.slice.injEq, true_and] at q0 q2 q3
  obtain ⟨rfl, rfl⟩ := q0
  obtain ⟨rfl, rfl⟩ := q2
  obtain ⟨rfl, rfl⟩ := q3
  exact ⟨i0, i2, i3, h.fns, h.vars, hok, h.fps, h.tab⟩
end Go.Proofs.YtnmcehpdiopaiaaGreatDoor.Cd

namespace Go.Proofs.YtnmcehpdiopaiaaGreatDoor.Cd
open Go.RowKit Go.WideShapes Go.ChangeShapes Go.ChangeAt Go.Deep Ty
set_option linter.unusedSimpArgs false
set_option linter.unusedVariables false
variable {H : Type} {enc : TypeId × Value → H} {W : World}

theorem cells_ints : Tryz.prog.cellsOf 22 = 1 := by kernel_rfl
theorem cells_inss : Tryz.prog.cellsOf 25 = 1 := by kernel_rfl
theorem cells_sigs : Tryz.prog.cellsOf 28 = 1 := by kernel_rfl
theorem cells_sig : Tryz.prog.cellsOf 24 = 2 := by kernel_rfl
theorem cells_fn : Tryz.prog.cellsOf 27 = 4 := by kernel_rfl
theorem cells_fm : Tryz.prog.cellsOf 30 = 2 := by kernel_rfl
theorem bytes_int : Tryz.prog.bytesOf 3 = 8 := by kernel_rfl
theorem bytes_sig : Tryz.prog.bytesOf 24 = 32 := by kernel_rfl
theorem int1_in {n : Nat} {cs : List Value} {x : DataW H × List MemPlace} (h : DataW.trod enc Tryz.prog W 0 (fun _ => true) true n 3 cs = some x) : ∃ z : Int, cs = [ci z] ∧ Ty.I64 z := by
  obtain ⟨t, e0, rfl, w0⟩ := DataW.trod_int Tryz.underlying3 h
  exact ⟨t, e0, Gn.wf_i64 w0⟩
theorem ints_in {fuel : Nat} {c : Value} {x : DataW H × List MemPlace} (h : DataW.trod enc Tryz.prog W 0 (fun _ => true) true fuel 22 [c] = some x) (hw : ∀ n ∈ x.1.weights Tryz.prog 22, n ≤ reachBytes) :
    ∃ ao cap, ∃ l : List Int, c = .slice ao l.length cap ∧ InL W ao cap l ∧ l.length ≤ 17592186044416 := by
  obtain ⟨ao, cap, l, rfl, hr, hs⟩ := Gn.row_w Tryz.underlying22 cells_int (by decide) bytes_int (fun (z : Int) cs => cs = [ci z]) (fun n cs y h1 _ => by
    obtain ⟨z, rfl, _⟩ := int1_in h1
    exact ⟨z, rfl, rfl⟩) h hw
  refine ⟨ao, cap, l, rfl, ?_, by unfold reachBytes at hs; omega⟩
  obtain ⟨h1, h2, h3, h4⟩ := hr
  refine ⟨h1, h2, h3, ?_⟩
  rcases h4 with rfl | ⟨b, off, rfl, hlt, h4⟩
  · exact Or.inl rfl
  · refine Or.inr ⟨b, off, rfl, fun i z hz => ?_⟩
    obtain ⟨cs, rfl, h5⟩ := h4 i z hz
    have := h5 0 (ci z) rfl
    rw [Nat.mul_one, Nat.add_zero] at this
    exact this
set_option maxRecDepth 20000 in
theorem sig_in {fuel : Nat} {cs : List Value} {x : DataW H × List MemPlace} (h : DataW.trod enc Tryz.prog W 0 (fun _ => true) true fuel 24 cs = some x) (hw : ∀ n ∈ x.1.weights Tryz.prog 24, n ≤ reachBytes) :
    ∃ ao cap, ∃ s : Sg, cs = [.slice ao s.ps.length cap, ci s.res] ∧ InL W ao cap s.ps ∧ s.ps.length ≤ 17592186044416 := by
  obtain ⟨xs, n, rfl, rfl, hlen, hxl, hf⟩ := DataW.trod_struct Tryz.underlying24 h
  rw [cells_sig] at hlen
  have hxl : xs.length = 2 := hxl
  match cs, hlen, xs, hxl with
  | [c0, c1], _, [x0, x1], _ =>
    have f0 : DataW.trod enc Tryz.prog W 0 (fun _ => true) true n 22 [c0] = some x0 := by
      have : DataW.trod enc Tryz.prog W 0 (fun _ => true) true n 22 (([c0, c1].drop 0).take (Tryz.prog.cellsOf 22)) = some x0 := hf 0 _ rfl
      rw [cells_ints] at this
      exact this
    have f1 : DataW.trod enc Tryz.prog W 0 (fun _ => true) true n 3 [c1] = some x1 := by
      have : DataW.trod enc Tryz.prog W 0 (fun _ => true) true n 3 (([c0, c1].drop 1).take (Tryz.prog.cellsOf 3)) = some x1 := hf 1 _ rfl
      rw [cells_int] at this
      exact this
    have hw0 : ∀ n ∈ x0.1.weights Tryz.prog 22, n ≤ reachBytes := fun n hn => hw n (by
      simp only [DataW.weights, Tryz.underlying24]
      exact DataW.weights_mem_each (j := 0) rfl rfl n hn)
    obtain ⟨ao, cap, l, rfl, hI, hb⟩ := ints_in f0 hw0
    obtain ⟨z, e, _⟩ := int1_in f1
    simp only [List.cons.injEq, and_true] at e
    subst e
    exact ⟨ao, cap, ⟨l, z⟩, rfl, hI, hb⟩
/-- A function that comes in. -/
def FnA (W : World) (v : Value) (f : Fu) : Prop := ∃ a0 a2 a3 c0 c2 c3, v = .agg (fnV f a0 a2 a3 c0 c2 c3) ∧ InL W a0 c0 f.sg.ps ∧ InL W a2 c2 f.loc ∧ IL W a3 c3 f.cd ∧ f.sg.ps.length ≤ 17592186044416 ∧ f.loc.length ≤ 17592186044416 ∧ f.cd.length ≤ 4398046510976 ∧ ∀ i ∈ f.cd, OkIn i
set_option maxRecDepth 20000 in
theorem fn_arg {fuel : Nat} {v : Value} {x : DataW H × List MemPlace} (h : DataW.trod enc Tryz.prog W 0 (fun _ => true) true fuel 27 v.cells.toList = some x) (hw : ∀ n ∈ x.1.weights Tryz.prog 27, n ≤ reachBytes) : ∃ f : Fu, FnA W v f := by
  obtain ⟨xs, n, hx, hp, hlen, hxl, hf⟩ := DataW.trod_struct Tryz.underlying27 h
  subst hx
  subst hp
  rw [cells_fn] at hlen
  have hv := Gn.agg_of (by omega) hlen
  have hxl : xs.length = 3 := hxl
  generalize v.cells.toList = cs at *
  match cs, hlen, xs, hxl with
  | [c0, c1, c2, c3], _, [x0, x1, x2], _ =>
    have f0 : DataW.trod enc Tryz.prog W 0 (fun _ => true) true n 24 [c0, c1] = some x0 := by
      have : DataW.trod enc Tryz.prog W 0 (fun _ => true) true n 24 (([c0, c1, c2, c3].drop 0).take (Tryz.prog.cellsOf 24)) = some x0 := hf 0 _ rfl
      rw [cells_sig] at this
      exact this
    have f1 : DataW.trod enc Tryz.prog W 0 (fun _ => true) true n 22 [c2] = some x1 := by
      have : DataW.trod enc Tryz.prog W 0 (fun _ => true) true n 22 (([c0, c1, c2, c3].drop 2).take (Tryz.prog.cellsOf 22)) = some x1 := hf 1 _ rfl
      rw [cells_ints] at this
      exact this
    have f2 : DataW.trod enc Tryz.prog W 0 (fun _ => true) true n 25 [c3] = some x2 := by
      have : DataW.trod enc Tryz.prog W 0 (fun _ => true) true n 25 (([c0, c1, c2, c3].drop 3).take (Tryz.prog.cellsOf 25)) = some x2 := hf 2 _ rfl
      rw [cells_inss] at this
      exact this
    have hw' : ∀ (j : Nat) (t : TypeId) (d : DataW H), [(24 : TypeId), 22, 25][j]? = some t → [x0.1, x1.1, x2.1][j]? = some d → ∀ n ∈ d.weights Tryz.prog t, n ≤ reachBytes := fun j t d h1 h2 n hn => hw n (by
      simp only [DataW.weights, Tryz.underlying27]
      exact DataW.weights_mem_each (j := j) h1 h2 n hn)
    obtain ⟨a0, cp0, s, e, i0, b0⟩ := sig_in f0 (hw' 0 _ _ rfl rfl)
    simp only [List.cons.injEq, and_true] at e
    obtain ⟨rfl, rfl⟩ := e
    obtain ⟨a2, cp2, l2, rfl, i2, b2⟩ := ints_in f1 (hw' 1 _ _ rfl rfl)
    obtain ⟨l3, a3, cp3, rfl, i3, o3, b3⟩ := inss_arg (v := c3) (by
      have : ∀ y : DataW H × List MemPlace, DataW.trod enc Tryz.prog W 0 (fun _ => true) true n 25 [c3] = some y → c3.cells.toList = [c3] := fun y hy => by
        rcases Gn.open_sl Tryz.underlying25 hy with rfl | ⟨a, len, cap, _, _, _, _, rfl, _⟩ <;> rfl
      exact this _ f2) (by
      have e : c3.cells.toList = [c3] := by rcases Gn.open_sl Tryz.underlying25 f2 with rfl | ⟨a, len, cap, _, _, _, _, rfl, _⟩ <;> rfl
      rw [e]; exact f2) (hw' 2 _ _ rfl rfl)
    exact ⟨⟨s, l2, l3⟩, a0, a2, a3, cp0, cp2, cp3, hv, i0, i2, i3, b0, b2, b3, o3⟩
/-- A program that comes in. -/
def FmA (W : World) (v : Value) (p : Fm) : Prop := ∃ a4 a5 c4 c5, v = .agg (fmV p a4 a5 c4 c5) ∧ SgL W a4 c4 p.fns ∧ InL W a5 c5 p.vars ∧ p.fns.length ≤ 4398046510976 ∧ p.vars.length ≤ 17592186044416 ∧ ∀ g ∈ p.fns, g.ps.length ≤ 17592186044416
set_option maxRecDepth 20000 in
theorem frame_arg {fuel : Nat} {v : Value} {x : DataW H × List MemPlace} (h : DataW.trod enc Tryz.prog W 0 (fun _ => true) true fuel 30 v.cells.toList = some x) (hw : ∀ n ∈ x.1.weights Tryz.prog 30, n ≤ reachBytes) : ∃ p : Fm, FmA W v p := by
  obtain ⟨xs, n, hx, hp, hlen, hxl, hf⟩ := DataW.trod_struct Tryz.underlying30 h
  subst hx
  subst hp
  rw [cells_fm] at hlen
  have hv := Gn.agg_of (by omega) hlen
  have hxl : xs.length = 2 := hxl
  generalize v.cells.toList = cs at *
  match cs, hlen, xs, hxl with
  | [c0, c1], _, [x0, x1], _ =>
    have f0 : DataW.trod enc Tryz.prog W 0 (fun _ => true) true n 28 [c0] = some x0 := by
      have : DataW.trod enc Tryz.prog W 0 (fun _ => true) true n 28 (([c0, c1].drop 0).take (Tryz.prog.cellsOf 28)) = some x0 := hf 0 _ rfl
      rw [cells_sigs] at this
      exact this
    have f1 : DataW.trod enc Tryz.prog W 0 (fun _ => true) true n 22 [c1] = some x1 := by
      have : DataW.trod enc Tryz.prog W 0 (fun _ => true) true n 22 (([c0, c1].drop 1).take (Tryz.prog.cellsOf 22)) = some x1 := hf 1 _ rfl
      rw [cells_ints] at this
      exact this
    have hw' : ∀ (j : Nat) (t : TypeId) (d : DataW H), [(28 : TypeId), 22][j]? = some t → [x0.1, x1.1][j]? = some d → ∀ n ∈ d.weights Tryz.prog t, n ≤ reachBytes := fun j t d h1 h2 n hn => hw n (by
      simp only [DataW.weights, Tryz.underlying30]
      exact DataW.weights_mem_each (j := j) h1 h2 n hn)
    obtain ⟨a4, cp4, l4, rfl, hr, b4⟩ := Gn.row_w Tryz.underlying28 cells_sig (by decide) bytes_sig (fun (s : Sg) cs => ∃ ao cap, cs = [.slice ao s.ps.length cap, ci s.res] ∧ InL W ao cap s.ps ∧ s.ps.length ≤ 17592186044416) (fun n cs y h1 h2 => by
      obtain ⟨ao, cap, s, rfl, i1, i2⟩ := sig_in h1 h2
      exact ⟨s, ⟨ao, cap, rfl, i1, i2⟩, rfl⟩) f0 (hw' 0 _ _ rfl rfl)
    obtain ⟨a5, cp5, l5, rfl, i5, b5⟩ := ints_in f1 (hw' 1 _ _ rfl rfl)
    obtain ⟨h1, h2, h3, h4⟩ := hr
    refine ⟨⟨l4, l5⟩, a4, a5, cp4, cp5, hv, ⟨h1, h2, h3, ?_⟩, i5, by unfold reachBytes at b4; show l4.length ≤ _; omega, b5, ?_⟩
    · rcases h4 with rfl | ⟨b, off, rfl, hlt, h4⟩
      · exact Or.inl rfl
      · refine Or.inr ⟨b, off, rfl, fun i s hs => ?_⟩
        obtain ⟨cs, ⟨ao, cap, rfl, i1, _⟩, h5⟩ := h4 i s hs
        exact ⟨ao, cap, i1, by have := h5 0 _ rfl; rw [Nat.add_zero] at this; exact this, h5 1 _ rfl⟩
    · intro g hg
      rcases h4 with rfl | ⟨b, off, rfl, hlt, h4⟩
      · simp at hg
      · obtain ⟨k, hk⟩ := List.getElem?_of_mem hg
        obtain ⟨cs, ⟨ao, cap, rfl, _, i2⟩, _⟩ := h4 k g hk
        exact i2
end Go.Proofs.YtnmcehpdiopaiaaGreatDoor.Cd
