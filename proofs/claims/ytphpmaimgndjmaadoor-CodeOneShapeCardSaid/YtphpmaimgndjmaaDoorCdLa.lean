/- Steps of a region that draws its order: a struct loaded, a struct stored; the law's two values in their boxes. -/
import Derived.Test.YtphpmaimgndjmaaDoorCdAl
import Derived.Test.YtphpmaimgndjmaaDoorCdDd
import Derived.Laws.Rows
import Derived.Laws.Tables
namespace Go.Proofs.YtphpmaimgndjmaaDoor.Cd
open Go.RowKit Ty
set_option linter.unusedSimpArgs false
set_option linter.unusedVariables false

theorem step_load {w : World} {ops : Array Oper} {o : Oper} {a : Act} {K : Act → World → Prop} {Q : Exit → Act → World → Prop} {E : Prop} (hgd : o.guard = none) (ty : TypeId) (x : Operand) (ho : o.op = .load ty x)
    (g : Nat) (hx : a.eval x = .pointer (some ⟨g, 0, none⟩)) (t : TypeId) (cs : Array Value) {fs : Array Field} (hg : w.heap[g]? = some (.cells cs t (0, 0)))
    (hu : Tryd.prog.underlying ty = some (.struct fs)) (hi : (Tryd.prog.info? ty).map (·.size) = some cs.size)
    (h : K (a.put o.dst (.agg cs)) w) : if Region.wanted o (yielded ops a.tmps) = true then Oper.wp Tryd.prog o a w K Q else E := by
  have hw : Region.wanted o (yielded ops a.tmps) = true := by simp [Region.wanted, hgd]
  rw [if_pos hw]
  exact wp_load_row ty x ho g hx t cs (0, 0) (.struct fs) hg hu rfl hi h
theorem step_store {w : World} {ops : Array Oper} {o : Oper} {a : Act} {K : Act → World → Prop} {Q : Exit → Act → World → Prop} {E : Prop} (hgd : o.guard = none) (ty : TypeId) (x y : Operand) (ho : o.op = .store ty x y)
    (g : Nat) (cells : Array Value) (hx : a.eval x = .pointer (some ⟨g, 0, none⟩)) (hy : a.eval y = .agg cells) (t : TypeId) (old : Array Value) (hg : w.heap[g]? = some (.cells old t (0, 0)))
    (hi : (Tryd.prog.info? ty).map (·.size) = some cells.size) (hold : old.size = cells.size) (h1 : cells.all (·.oneCell') = true)
    (h : K (a.put o.dst undef) (w.setRow g cells)) : if Region.wanted o (yielded ops a.tmps) = true then Oper.wp Tryd.prog o a w K Q else E := by
  have hw : Region.wanted o (yielded ops a.tmps) = true := by simp [Region.wanted, hgd]
  rw [if_pos hw]
  exact wp_store_row ty x y ho g cells hx hy t old hg hi hold h1 h
theorem Fr.setRow (w : World) (g : Nat) (cs : Array Value) : Fr (fun k => k = g) w (w.setRow g cs) :=
  ⟨rfl, rfl, by simp, fun k _ hk => setRow_other w g k cs hk⟩
abbrev fnV (f : Fu) (a0 a2 a3 : Option Addr) (c0 c2 c3 : Nat) : Array Value := #[.slice a0 f.sg.ps.length c0, ci f.sg.res, .slice a2 f.loc.length c2, .slice a3 f.cd.length c3]
abbrev fmV (p : Fm) (a4 a5 : Option Addr) (c4 c5 : Nat) : Array Value := #[.slice a4 p.fns.length c4, .slice a5 p.vars.length c5]
theorem FnO.keepN {w w' : World} {B : Nat} {v : Value} {f : Fu} (h : FnO w B v f) (fr : Fr (fun _ => False) w w') : FnO w' B v f := by
  obtain ⟨vp, vl, vc, e, h1, h2, h3⟩ := h
  exact ⟨vp, vl, vc, e, h1.keepN fr, h2.keepN fr, h3.keepN fr⟩
theorem FmO.keepN {w w' : World} {B : Nat} {v : Value} {p : Fm} (h : FmO w B v p) (fr : Fr (fun _ => False) w w') : FmO w' B v p := by
  obtain ⟨v4, v5, e, h1, h2⟩ := h
  exact ⟨v4, v5, e, h1.keepN fr, h2.keepN fr⟩
theorem t_ne : (3 : TypeId) ≠ 35 ∧ (50 : TypeId) ≠ 35 ∧ (32 : TypeId) ≠ 35 ∧ (50 : TypeId) ≠ 39 ∧ (32 : TypeId) ≠ 39 := by decide
/-- A write into a box of another type keeps what is of the law's own. -/
theorem FnO.box {w w' : World} {B b : Nat} {v : Value} {f : Fu} {cs : Array Value} {t : TypeId} (h : FnO w B v f) (hb : w.heap[b]? = some (.cells cs t (0, 0))) (h1 : (3 : TypeId) ≠ t) (h2 : (50 : TypeId) ≠ t) (fr : Fr (fun k => k = b) w w') : FnO w' B v f := by
  obtain ⟨vp, vl, vc, e, i1, i2, i3⟩ := h
  exact ⟨vp, vl, vc, e, own_keep i1 fr (fun k e e2 => by subst e2; exact own_notrow i1 hb h1 e), own_keep i2 fr (fun k e e2 => by subst e2; exact own_notrow i2 hb h1 e), own_keep i3 fr (fun k e e2 => by subst e2; exact own_notrow i3 hb h2 e)⟩
theorem FmO.box {w w' : World} {B b : Nat} {v : Value} {p : Fm} {cs : Array Value} {t : TypeId} (h : FmO w B v p) (hb : w.heap[b]? = some (.cells cs t (0, 0))) (h1 : (3 : TypeId) ≠ t) (h2 : (32 : TypeId) ≠ t) (fr : Fr (fun k => k = b) w w') : FmO w' B v p := by
  obtain ⟨v4, v5, e, ⟨xs, i1, i2, i3⟩, i5⟩ := h
  exact ⟨v4, v5, e, ⟨xs, i1, own_keep i2 fr (fun k e e2 => by subst e2; exact own_notrow i2 hb h2 e), fun i s x hs hx => own_keep (i3 i s x hs hx) fr (fun k e e2 => by subst e2; exact own_notrow (i3 i s x hs hx) hb h1 e)⟩, own_keep i5 fr (fun k e e2 => by subst e2; exact own_notrow i5 hb h1 e)⟩
theorem fn_lit (f : Fu) (a0 a2 a3 : Option Addr) (c0 c2 c3 : Nat) (B : Nat) (w : World) (h0 : InL w a0 c0 f.sg.ps) (h2 : InL w a2 c2 f.loc) (h3 : IL w a3 c3 f.cd) (hb0 : f.sg.ps.length ≤ 17592186044416) (hb2 : f.loc.length ≤ 17592186044416) (hb3 : f.cd.length ≤ 4398046510976) (hB : B ≤ w.heap.size) :
    Calls Tryd.prog 6 #[.agg (fnV f a0 a2 a3 c0 c2 c3)] w fun e w' => ∃ b0 b2 b3 d0 d2 d3, e = .returned (.agg (fnV f b0 b2 b3 d0 d2 d3)) ∧ FnO w' B (.agg (fnV f b0 b2 b3 d0 d2 d3)) f ∧ Fr (fun _ => False) w w' :=
  (fn_any f a0 a2 a3 c0 c2 c3 _ _ _ rfl rfl rfl w h0 h2 h3 hb0 hb2 hb3).mono (fun e w' g => by
    obtain ⟨v, rfl, ⟨vp, vl, vc, rfl, i1, i2, i3⟩, g3⟩ := g
    obtain ⟨b0, d0, rfl, _⟩ := i1.inl
    obtain ⟨b2, d2, rfl, _⟩ := i2.inl
    obtain ⟨b3, d3, rfl, _⟩ := i3.il
    exact ⟨b0, b2, b3, d0, d2, d3, rfl, ⟨_, _, _, rfl, own_lower i1 hB, own_lower i2 hB, own_lower i3 hB⟩, g3⟩)
theorem frame_lit (p : Fm) (a4 a5 : Option Addr) (c4 c5 : Nat) (B : Nat) (w : World) (h4 : SgL w a4 c4 p.fns) (h5 : InL w a5 c5 p.vars) (hb4 : p.fns.length ≤ 4398046510976) (hb5 : p.vars.length ≤ 17592186044416) (hps : ∀ g ∈ p.fns, g.ps.length ≤ 17592186044416) (hB : B ≤ w.heap.size) :
    Calls Tryd.prog 7 #[.agg (fmV p a4 a5 c4 c5)] w fun e w' => ∃ b4 b5 d4 d5, e = .returned (.agg (fmV p b4 b5 d4 d5)) ∧ FmO w' B (.agg (fmV p b4 b5 d4 d5)) p ∧ Fr (fun _ => False) w w' :=
  (frame_any p a4 a5 c4 c5 _ _ rfl rfl w h4 h5 hb4 hb5 hps).mono (fun e w' g => by
    obtain ⟨v, rfl, ⟨v4, v5, rfl, i4, i5⟩, g3⟩ := g
    obtain ⟨b4, d4, rfl, _⟩ := i4.sgl
    obtain ⟨b5, d5, rfl, _⟩ := i5.inl
    exact ⟨b4, b5, d4, d5, rfl, ⟨_, _, rfl, i4.lower hB, own_lower i5 hB⟩, g3⟩)
end Go.Proofs.YtphpmaimgndjmaaDoor.Cd
