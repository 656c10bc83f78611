/- CodeDead's helpers: what makes a function of the law's own; one instruction of it written anew. -/
import Derived.Test.YtphpmaimgndjmaaDoorCdLa
import Derived.Test.YtphpmaimgndjmaaDoorCdPa
namespace Go.Proofs.YtphpmaimgndjmaaDoor.Cd
open Go.RowKit Ty
set_option linter.unusedSimpArgs false
set_option linter.unusedVariables false

theorem fi_lit {w : World} {B B' : Nat} {f : Fu} {p : Fm} {b0 b2 b3 b4 b5 : Option Addr} {e0 e2 e3 e4 e5 : Nat} (hF : FnO w B (.agg (fnV f b0 b2 b3 e0 e2 e3)) f) (hP : FmO w B' (.agg (fmV p b4 b5 e4 e5)) p) (hok : ∀ i ∈ f.cd, OkIn i) (hps : ∀ g ∈ p.fns, g.ps.length ≤ 17592186044416) (ht : F.Tab w) :
    Fi w f p b0 b2 b3 b4 b5 e0 e2 e3 e4 e5 := by
  obtain ⟨vp, vl, vc, e, h1, h2, h3⟩ := hF
  obtain ⟨v4, v5, e', h4, h5⟩ := hP
  simp only [Value.agg.injEq, Array.mk.injEq, List.cons.injEq, and_true, true_and] at e e'
  obtain ⟨rfl, rfl, rfl⟩ := e
  obtain ⟨rfl, rfl⟩ := e'
  obtain ⟨_, _, q0, i0⟩ := h1.inl
  obtain ⟨_, _, q2, i2⟩ := h2.inl
  obtain ⟨_, _, q3, i3⟩ := h3.il
  obtain ⟨_, _, q4, i4⟩ := h4.sgl
  obtain ⟨_, _, q5, i5⟩ := h5.inl
  simp only [Value.slice.injEq, true_and] at q0 q2 q3 q4 q5
  obtain ⟨rfl, rfl⟩ := q0
  obtain ⟨rfl, rfl⟩ := q2
  obtain ⟨rfl, rfl⟩ := q3
  obtain ⟨rfl, rfl⟩ := q4
  obtain ⟨rfl, rfl⟩ := q5
  exact ⟨i0, i2, i3, i4, i5, hok, hps, ht⟩
theorem shp_len (f : Fu) (p : Fm) (a : Int) : (shL (shpS f p a)).length ≤ 512 := by
  unfold shpS
  split
  · simp [shL]
  rename_i h
  simp only [not_or, Classical.not_not] at h
  obtain ⟨L, h1, h2, h3, h4, _⟩ := ver_fin h.1
  have inv := fin_inv h2 h3 h4
  rw [h1]
  unfold atS
  rw [Option.bind_some]
  cases hc : L[a.toNat]? with
  | none => simp [shL]
  | some c =>
    rw [Option.bind_some]
    cases c with
    | none => simp [shL]
    | some z =>
      obtain ⟨g, s⟩ := z
      exact (over_len (inv.ov _ _ _ hc)).1
theorem flat_set4 : ∀ (l : List In) (k : Nat) (x : In), k < l.length → ((((l.flatMap inC).set (k * 4) (ci x.op)).set (k * 4 + 1) (ci x.n)).set (k * 4 + 2) (ci x.t)).set (k * 4 + 3) (.int .u64 x.b) = (l.set k x).flatMap inC
  | [], k, x, h => by simp at h
  | y :: r, 0, x, h => rfl
  | y :: r, k + 1, x, h => by
    have ih := flat_set4 r k x (by simpa using h)
    rw [List.set_cons_succ, List.flatMap_cons, List.flatMap_cons, ← ih]
    rw [show (k + 1) * 4 + 1 = (inC y).length + (k * 4 + 1) by rw [inC_len]; omega, show (k + 1) * 4 + 2 = (inC y).length + (k * 4 + 2) by rw [inC_len]; omega, show (k + 1) * 4 + 3 = (inC y).length + (k * 4 + 3) by rw [inC_len]; omega, show (k + 1) * 4 = (inC y).length + k * 4 by rw [inC_len]; omega]
    rw [List.set_append_right _ _ (by omega), List.set_append_right _ _ (by omega), List.set_append_right _ _ (by omega), List.set_append_right _ _ (by omega)]
    rw [show (inC y).length + k * 4 - (inC y).length = k * 4 by omega, show (inC y).length + (k * 4 + 1) - (inC y).length = k * 4 + 1 by omega, show (inC y).length + (k * 4 + 2) - (inC y).length = k * 4 + 2 by omega, show (inC y).length + (k * 4 + 3) - (inC y).length = k * 4 + 3 by omega]
abbrev set4 (w : World) (g k : Nat) (x : In) : World := (((w.setCell ⟨g, k * 4, none⟩ (ci x.op)).setCell ⟨g, k * 4 + 1, none⟩ (ci x.n)).setCell ⟨g, k * 4 + 2, none⟩ (ci x.t)).setCell ⟨g, k * 4 + 3, none⟩ (.int .u64 x.b)
theorem set4_fr (w : World) (g k : Nat) (x : In) : Fr (fun j => j = g) w (set4 w g k x) :=
  ((((Fr.setCell w ⟨g, k * 4, none⟩ _).same (Fr.setCell _ ⟨g, k * 4 + 1, none⟩ _)).same (Fr.setCell _ ⟨g, k * 4 + 2, none⟩ _)).same (Fr.setCell _ ⟨g, k * 4 + 3, none⟩ _))
theorem own_at4 {w : World} {B : Nat} {v : Value} {l : List In} (h : IW w B 50 v l) (k : Nat) (hk : k < l.length) (x : In) :
    ∃ g cap cur, v = .slice (some ⟨g, 0, none⟩) l.length cap ∧ B ≤ g ∧ w.heap[g]? = some (.cells cur 50 (0, 0)) ∧ l.length ≤ cap ∧ cap ≤ maxLen ∧ (∃ u0 u1 u2 u3, w.cell? ⟨g, k * 4, none⟩ = some u0 ∧ w.cell? ⟨g, k * 4 + 1, none⟩ = some u1 ∧ w.cell? ⟨g, k * 4 + 2, none⟩ = some u2 ∧ w.cell? ⟨g, k * 4 + 3, none⟩ = some u3) ∧ (∀ i, w.frozen? ⟨g, i, none⟩ = false) ∧ IW (set4 w g k x) B 50 v (l.set k x) := by
  have hfl := flat_len l
  have hget : ∀ j, j < l.length * 4 → ∃ u, (l.flatMap inC)[j]? = some u := fun j hj => ⟨_, List.getElem?_eq_getElem (by rw [hfl]; exact hj)⟩
  obtain ⟨g, cap, cur, rfl, hB, hc, hm, hg, hcell, hfz, h1⟩ := own_at h (k * 4) (by rw [hfl]; omega)
  have i1 := h1 (ci x.op)
  obtain ⟨g', cap', cur', e', _, _, _, _, _, _, h2⟩ := own_at i1 (k * 4 + 1) (by rw [List.length_set, hfl]; omega)
  simp only [Value.slice.injEq, Option.some.injEq, Addr.mk.injEq, and_true, true_and] at e'
  obtain ⟨rfl, rfl⟩ := e'
  have i2 := h2 (ci x.n)
  obtain ⟨g', cap', cur', e', _, _, _, _, _, _, h3⟩ := own_at i2 (k * 4 + 2) (by rw [List.length_set, List.length_set, hfl]; omega)
  simp only [Value.slice.injEq, Option.some.injEq, Addr.mk.injEq, and_true, true_and] at e'
  obtain ⟨rfl, rfl⟩ := e'
  have i3 := h3 (ci x.t)
  obtain ⟨g', cap', cur', e', _, _, _, _, _, _, h4⟩ := own_at i3 (k * 4 + 3) (by rw [List.length_set, List.length_set, List.length_set, hfl]; omega)
  simp only [Value.slice.injEq, Option.some.injEq, Addr.mk.injEq, and_true, true_and] at e'
  obtain ⟨rfl, rfl⟩ := e'
  have i4 := h4 (.int .u64 x.b)
  rw [flat_set4 l k x hk] at i4
  obtain ⟨u0, q0⟩ := hget (k * 4) (by omega)
  obtain ⟨u1, q1⟩ := hget (k * 4 + 1) (by omega)
  obtain ⟨u2, q2⟩ := hget (k * 4 + 2) (by omega)
  obtain ⟨u3, q3⟩ := hget (k * 4 + 3) (by omega)
  refine ⟨g, cap, cur, rfl, hB, hg, hc, hm, ⟨u0, u1, u2, u3, hcell _ _ q0, hcell _ _ q1, hcell _ _ q2, hcell _ _ q3⟩, hfz, ?_⟩
  unfold IW
  rw [List.length_set]
  exact i4
/-- The other function, once its instruction is written anew. -/
theorem other_at {w : World} {B : Nat} {f : Fu} {b0 b2 b3 : Option Addr} {e0 e2 e3 : Nat} (hF : FnO w B (.agg (fnV f b0 b2 b3 e0 e2 e3)) f) (k : Nat) (hk : k < f.cd.length) (x : In) :
    ∃ g cur, b3 = some ⟨g, 0, none⟩ ∧ B ≤ g ∧ w.heap[g]? = some (.cells cur 50 (0, 0)) ∧ f.cd.length ≤ e3 ∧ e3 ≤ maxLen ∧ (∃ u0 u1 u2 u3, w.cell? ⟨g, k * 4, none⟩ = some u0 ∧ w.cell? ⟨g, k * 4 + 1, none⟩ = some u1 ∧ w.cell? ⟨g, k * 4 + 2, none⟩ = some u2 ∧ w.cell? ⟨g, k * 4 + 3, none⟩ = some u3) ∧ (∀ i, w.frozen? ⟨g, i, none⟩ = false) ∧
      FnO (set4 w g k x) B (.agg (fnV { f with cd := f.cd.set k x } b0 b2 b3 e0 e2 e3)) { f with cd := f.cd.set k x } := by
  obtain ⟨vp, vl, vc, e, h1, h2, h3⟩ := hF
  simp only [Value.agg.injEq, Array.mk.injEq, List.cons.injEq, and_true, true_and] at e
  obtain ⟨rfl, rfl, rfl⟩ := e
  obtain ⟨g, cap, cur, q, hB, hg, hc, hm, hcell, hfz, h4⟩ := own_at4 h3 k hk x
  simp only [Value.slice.injEq, true_and] at q
  obtain ⟨rfl, rfl⟩ := q
  have fr := set4_fr w g k x
  refine ⟨g, cur, rfl, hB, hg, hc, hm, hcell, hfz, ⟨_, _, _, rfl, own_keep h1 fr (fun j e e2 => ?_), own_keep h2 fr (fun j e e2 => ?_), ?_⟩⟩
  · subst e2; exact own_types h1 h3 int_ins e rfl
  · subst e2; exact own_types h2 h3 int_ins e rfl
  · show IW _ _ _ (.slice _ (f.cd.set k x).length _) _
    rw [List.length_set]
    exact h4
/-- The other function with the program of the first one. -/
theorem fi_other {w : World} {B : Nat} {f f' : Fu} {p : Fm} {b0 b2 b3 b4 b5 m0 m2 m3 : Option Addr} {e0 e2 e3 e4 e5 n0 n2 n3 : Nat} (hF : FnO w B (.agg (fnV f' m0 m2 m3 n0 n2 n3)) f') (h : Fi w f p b0 b2 b3 b4 b5 e0 e2 e3 e4 e5) (hok : ∀ i ∈ f'.cd, OkIn i) :
    Fi w f' p m0 m2 m3 b4 b5 n0 n2 n3 e4 e5 := by
  obtain ⟨vp, vl, vc, e, h1, h2, h3⟩ := hF
  simp only [Value.agg.injEq, Array.mk.injEq, List.cons.injEq, and_true, true_and] at e
  obtain ⟨rfl, rfl, rfl⟩ := e
  obtain ⟨_, _, q0, i0⟩ := h1.inl
  obtain ⟨_, _, q2, i2⟩ := h2.inl
  obtain ⟨_, _, q3, i3⟩ := h3.il
  simp only [Value.slice.injEq, true_and] at q0 q2 q3
  obtain ⟨rfl, rfl⟩ := q0
  obtain ⟨rfl, rfl⟩ := q2
  obtain ⟨rfl, rfl⟩ := q3
  exact ⟨i0, i2, i3, h.fns, h.vars, hok, h.fps, h.tab⟩
end Go.Proofs.YtphpmaimgndjmaaDoor.Cd
