/- Plain: what the law's steps says of an instruction, held against the document's step. -/
import Derived.Test.YtphpmaimgndjmaaDoorCdDd
namespace Go.Proofs.YtphpmaimgndjmaaDoor.Cd
open Go.RowKit Ty
set_option linter.unusedSimpArgs false
set_option linter.unusedVariables false

theorem ver_nonneg (f : Fu) (p : Fm) : 0 ≤ (verS f p).1 := by
  unfold verS
  split
  · exact Int.le_refl _
  · split
    · assumption
    · show 0 ≤ placeS (runS f p)
      cases runS f p with
      | ok L => exact Int.le_refl _
      | er k e => exact Int.natCast_nonneg k
theorem tk_some {st l r : List Int} (h : tk st l = some r) : st = r ++ l := by
  unfold tk at h
  split at h
  · rename_i c
    cases h
    rw [← c.2, c.2]
    conv => lhs; rw [← List.take_append_drop (st.length - l.length) st]
    rw [c.2]
  · cases h
theorem tp_some {st r : List Int} {t : Int} (h : tp st = some (r, t)) : st = r ++ [t] := by
  unfold tp at h
  split at h
  · cases h
  · rename_i x hx
    cases h
    have hne : st ≠ [] := by rintro rfl; simp at hx
    rw [List.getLast?_eq_some_getLast hne] at hx
    have e := Option.some.inj hx
    rw [← e]
    exact (List.dropLast_concat_getLast hne).symm
/-- What it takes. -/
def tkN (p : Fm) (i : In) : Nat :=
  if i.op = 3 ∨ i.op = 5 ∨ i.op = 12 ∨ i.op = 17 ∨ i.op = 6 then 1 else if i.op = 7 then 2 else if i.op = 10 then ((p.fns[i.n.toNat]?).map fun g => g.ps.length).getD 0 else 0
/-- What it puts. -/
def puT (f : Fu) (p : Fm) (i : In) (st : List Int) : List Int :=
  if i.op = 1 then [i.t] else if i.op = 2 then (f.loc[i.n.toNat]?).toList else if i.op = 4 then (p.vars[i.n.toNat]?).toList
  else if i.op = 6 then [(unS i.n (st.getD (st.length - 1) 0)).1] else if i.op = 7 then [(binS i.n (st.getD (st.length - 2) 0) (st.getD (st.length - 1) 0)).1]
  else if i.op = 10 then (match p.fns[i.n.toNat]? with | some g => if g.res = 0 then [] else [g.res] | none => []) else if i.op = 14 then [1] else []
/-- Goes on to the next one. -/
def onT (op : Int) : Bool := decide (op = 1 ∨ op = 2 ∨ op = 3 ∨ op = 4 ∨ op = 5 ∨ op = 6 ∨ op = 7 ∨ op = 10 ∨ op = 12 ∨ op = 14 ∨ op = 15 ∨ op = 16 ∨ op = 17)
structure Law (f : Fu) (p : Fm) (i : In) (s : Sp) (a b : Option Sp) : Prop where
  le : tkN p i ≤ s.st.length
  nx : onT i.op = true → ∃ x, a = some x ∧ x.st = s.st.take (s.st.length - tkN p i) ++ puT f p i s.st ∧ (i.op = 15 → x.tr.length = s.tr.length + 1) ∧ (i.op = 16 → x.tr.length + 1 = s.tr.length) ∧ (i.op ≠ 15 → i.op ≠ 16 → x.tr.length = s.tr.length)
  j8 : i.op = 8 → b = some s
  j9 : i.op = 9 → ∃ r, s.st = r ++ [3] ∧ b = some ⟨r, s.tr⟩
  j15 : i.op = 15 → b = some ⟨s.st ++ [1], s.tr⟩
  r11 : i.op = 11 → f.sg.res ≠ 0 → ∃ r, s.st = r ++ [f.sg.res]
  i2 : i.op = 2 → ∃ t, f.loc[i.n.toNat]? = some t
  i4 : i.op = 4 → ∃ t, p.vars[i.n.toNat]? = some t
  i6 : i.op = 6 → ∃ r t, s.st = r ++ [t]
  i7 : i.op = 7 → ∃ r u t, s.st = r ++ [u, t]
  i10 : i.op = 10 → ∃ g, p.fns[i.n.toNat]? = some g
theorem take_app (r l : List Int) : (r ++ l).take ((r ++ l).length - l.length) = r := by
  rw [List.length_append, Nat.add_sub_cancel]
  simp
theorem law_of {f : Fu} {p : Fm} {i : In} {s : Sp} {a b : Option Sp} (h : stepS f p i s = some (a, b)) (hk : known i.op = true) : Law f p i s a b := by
  have hk' : 1 ≤ i.op ∧ i.op ≤ 17 := by unfold known at hk; exact of_decide_eq_true hk
  obtain ⟨op, n, t, bb⟩ := i
  simp only [] at hk' ⊢
  have hop : op = 1 ∨ op = 2 ∨ op = 3 ∨ op = 4 ∨ op = 5 ∨ op = 6 ∨ op = 7 ∨ op = 8 ∨ op = 9 ∨ op = 10 ∨ op = 11 ∨ op = 12 ∨ op = 13 ∨ op = 14 ∨ op = 15 ∨ op = 16 ∨ op = 17 := by omega
  unfold stepS at h
  rcases hop with rfl | rfl | rfl | rfl | rfl | rfl | rfl | rfl | rfl | rfl | rfl | rfl | rfl | rfl | rfl | rfl | rfl
  · simp [on, Option.bind_eq_some_iff] at h
    obtain ⟨rfl, rfl⟩ := h
    refine ⟨by simp [tkN], fun _ => ⟨_, rfl, by simp [tkN, puT], by simp, by simp, by simp⟩, by simp, by simp, by simp, by simp, by simp, by simp, by simp, by simp, by simp⟩
  · simp [on, Option.bind_eq_some_iff] at h
    obtain ⟨t, ht, rfl, rfl⟩ := h
    refine ⟨by simp [tkN], fun _ => ⟨_, rfl, by simp [tkN, puT, ht], by simp, by simp, by simp⟩, by simp, by simp, by simp, by simp, fun _ => ⟨t, ht⟩, by simp, by simp, by simp, by simp⟩
  · simp [on, Option.bind_eq_some_iff] at h
    obtain ⟨t, ht, r, hr, rfl, rfl⟩ := h
    have e := tk_some hr
    refine ⟨by simp [tkN, e], fun _ => ⟨_, rfl, by simp [tkN, puT, e], by simp, by simp, by simp⟩, by simp, by simp, by simp, by simp, by simp, by simp, by simp, by simp, by simp⟩
  · simp [on, Option.bind_eq_some_iff] at h
    obtain ⟨t, ht, rfl, rfl⟩ := h
    refine ⟨by simp [tkN], fun _ => ⟨_, rfl, by simp [tkN, puT, ht], by simp, by simp, by simp⟩, by simp, by simp, by simp, by simp, by simp, fun _ => ⟨t, ht⟩, by simp, by simp, by simp⟩
  · simp [on, Option.bind_eq_some_iff] at h
    obtain ⟨t, ht, r, hr, rfl, rfl⟩ := h
    have e := tk_some hr
    refine ⟨by simp [tkN, e], fun _ => ⟨_, rfl, by simp [tkN, puT, e], by simp, by simp, by simp⟩, by simp, by simp, by simp, by simp, by simp, by simp, by simp, by simp, by simp⟩
  · simp [on, Option.bind_eq_some_iff] at h
    obtain ⟨r, t, ht, hu, rfl, rfl⟩ := h
    have e := tp_some ht
    refine ⟨by simp [tkN, e], fun _ => ⟨_, rfl, by simp [tkN, puT, e], by simp, by simp, by simp⟩, by simp, by simp, by simp, by simp, by simp, by simp, fun _ => ⟨r, t, e⟩, by simp, by simp⟩
  · simp [on, Option.bind_eq_some_iff] at h
    obtain ⟨r, t, ht, r2, t2, ht2, hu, rfl, rfl⟩ := h
    have e := tp_some ht
    have e2 := tp_some ht2
    have e3 : s.st = r2 ++ [t2, t] := by rw [e, e2, List.append_assoc]; rfl
    refine ⟨by simp [tkN, e3], fun _ => ⟨_, rfl, by simp [tkN, puT, e3], by simp, by simp, by simp⟩, by simp, by simp, by simp, by simp, by simp, by simp, by simp, fun _ => ⟨r2, t2, t, e3⟩, by simp⟩
  · simp [Option.bind_eq_some_iff] at h
    obtain ⟨rfl, rfl⟩ := h
    refine ⟨by simp [tkN], fun h => by simp [onT] at h, by simp, by simp, by simp, by simp, by simp, by simp, by simp, by simp, by simp⟩
  · simp [Option.bind_eq_some_iff] at h
    obtain ⟨r, hr, rfl, rfl⟩ := h
    have e := tk_some hr
    refine ⟨by simp [tkN], fun h => by simp [onT] at h, by simp, fun _ => ⟨r, e, rfl⟩, by simp, by simp, by simp, by simp, by simp, by simp, by simp⟩
  · simp [on, Option.bind_eq_some_iff] at h
    obtain ⟨g, hg, r, hr, rfl, rfl⟩ := h
    have e := tk_some hr
    refine ⟨by simp [tkN, e, hg], fun _ => ⟨_, rfl, ?_, by simp, by simp, by simp⟩, by simp, by simp, by simp, by simp, by simp, by simp, by simp, by simp, fun _ => ⟨g, hg⟩⟩
    simp only [tkN, puT, hg, Option.map_some, Option.getD_some]
    by_cases h0 : g.res = 0
    · simp [h0, e]
    · simp [h0, e]
  · simp [Option.bind_eq_some_iff] at h
    by_cases h0 : f.sg.res = 0
    · simp [h0, Option.bind_eq_some_iff] at h
      obtain ⟨rfl, rfl⟩ := h
      refine ⟨by simp [tkN], fun h => by simp [onT] at h, by simp, by simp, by simp, by simp [h0], by simp, by simp, by simp, by simp, by simp⟩
    · simp [h0, Option.bind_eq_some_iff] at h
      obtain ⟨⟨r, hr⟩, rfl, rfl⟩ := h
      have e := tk_some hr
      refine ⟨by simp [tkN], fun h => by simp [onT] at h, by simp, by simp, by simp, fun _ _ => ⟨r, e⟩, by simp, by simp, by simp, by simp, by simp⟩
  · simp [on, Option.bind_eq_some_iff] at h
    obtain ⟨r, ⟨t, ht⟩, rfl, rfl⟩ := h
    have e := tp_some ht
    refine ⟨by simp [tkN, e], fun _ => ⟨_, rfl, by simp [tkN, puT, e], by simp, by simp, by simp⟩, by simp, by simp, by simp, by simp, by simp, by simp, by simp, by simp, by simp⟩
  · simp [Option.bind_eq_some_iff] at h
    obtain ⟨⟨r, hr⟩, rfl, rfl⟩ := h
    refine ⟨by simp [tkN], fun h => by simp [onT] at h, by simp, by simp, by simp, by simp, by simp, by simp, by simp, by simp, by simp⟩
  · simp [on, Option.bind_eq_some_iff] at h
    obtain ⟨rfl, rfl⟩ := h
    refine ⟨by simp [tkN], fun _ => ⟨_, rfl, by simp [tkN, puT], by simp, by simp, by simp⟩, by simp, by simp, by simp, by simp, by simp, by simp, by simp, by simp, by simp⟩
  · simp [Option.bind_eq_some_iff] at h
    obtain ⟨rfl, rfl⟩ := h
    refine ⟨by simp [tkN], fun _ => ⟨_, rfl, by simp [tkN, puT], by simp, by simp, by simp⟩, by simp, by simp, by simp, by simp, by simp, by simp, by simp, by simp, by simp⟩
  · simp [Option.bind_eq_some_iff] at h
    obtain ⟨h0, rfl, rfl⟩ := h
    have : 0 < s.tr.length := List.length_pos_iff.2 h0
    refine ⟨by simp [tkN], fun _ => ⟨_, rfl, by simp [tkN, puT], by simp, fun _ => by simp; omega, by simp⟩, by simp, by simp, by simp, by simp, by simp, by simp, by simp, by simp, by simp⟩
  · simp [on, Option.bind_eq_some_iff] at h
    obtain ⟨r, ⟨t, ht⟩, rfl, rfl⟩ := h
    have e := tp_some ht
    refine ⟨by simp [tkN, e], fun _ => ⟨_, rfl, by simp [tkN, puT, e], by simp, by simp, by simp⟩, by simp, by simp, by simp, by simp, by simp, by simp, by simp, by simp, by simp⟩
theorem one_at {f : Fu} {p : Fm} (hv : (verS f p).2 = 0) {k : Nat} {s : Sp} (hk : k < f.cd.length) (hs : shpS f p k = some s) :
    ∃ a b, Law f p (f.cd.getD k default) s a b ∧ (∀ x, a = some x → shpS f p ((k : Int) + 1) = some x) ∧ (∀ x, b = some x → shpS f p (f.cd.getD k default).n = some x) ∧ rightS (f.cd.getD k default) = true := by
  obtain ⟨L, h1, h2, h3, h4, _⟩ := ver_fin hv
  have inv := fin_inv h2 h3 h4
  have hat : ∀ m : Nat, m < f.cd.length → shpS f p m = atS (some L) m := fun m hm => by
    unfold shpS
    rw [if_neg (by rintro (e | e | e); exact e hv; omega; omega), h1, Int.toNat_natCast]
  rw [hat k hk] at hs
  obtain ⟨g, hg⟩ := at_some hs
  obtain ⟨a, b, e, ha, hb⟩ := fits_plain h2 k g s hg
  have hright : rightS (f.cd.getD k default) = true := by
    refine bad_no h4 _ ?_
    rw [List.getD_eq_getElem?_getD, List.getElem?_eq_getElem hk]
    exact List.getElem_mem hk
  have ok := right_okI hright
  have hsome : ∀ (m : Nat) (x : Sp) g, L[m]? = some (some (g, x)) → m < f.cd.length ∧ atS (some L) m = some x := fun m x g hx => by
    refine ⟨by rw [← inv.len]; exact (List.getElem?_eq_some_iff.1 hx).1, ?_⟩
    unfold atS
    rw [Option.bind_some, hx]
    rfl
  refine ⟨a, b, law_of e ?_, fun x hx => ?_, fun x hx => ?_, hright⟩
  · exact (right_parts hright).1
  · obtain ⟨_, g, hL⟩ := ha x hx
    obtain ⟨q1, q2⟩ := hsome (k + 1) x g hL
    rw [← q2, ← hat (k + 1) q1]
    norm_cast
  · obtain ⟨_, hlt, g, hL⟩ := hb x hx
    obtain ⟨q1, q2⟩ := hsome _ x g hL
    have hn0 : 0 ≤ (f.cd.getD k default).n := ok.1
    rw [← q2, ← hat _ q1, Int.toNat_of_nonneg hn0]
end Go.Proofs.YtphpmaimgndjmaaDoor.Cd
