/- iface: plain: what is not shown changes nothing; an interface that is drawn out is right. -/
import Derived.Test.YtpjahcncknccdaaGreatIcBll
namespace Go.Proofs.YtpjahcncknccdaaGreat.Fo.Ic
open Go.RowKit Te
set_option linter.unusedSimpArgs false
set_option linter.unusedVariables false

/-- A declaration without its body, or nothing. -/
def bareO (d : De) : List De := if d.kind = 3 ∧ d.ex = true then [⟨d.kind, d.ex, d.name, d.type, d.params, d.e, .nil⟩] else if d.kind = 1 then [d] else []
def bareD (l : List De) : List De := l.flatMap bareO
def bareM (m : Mo) : Mo := ⟨m.name, m.imports, bareD m.decls⟩
theorem errDs_iff : ∀ (l : List De), errDs rnS cnS l = 0 ↔ ∀ d ∈ l, errD rnS cnS d = 0
  | [] => by simp [errDs]
  | d :: l => by rw [errDs, orE_zero, errDs_iff l]; simp
theorem errM_iff (m : Mo) : errM rnS cnS m = 0 ↔ rnS m.name = 0 ∧ m.imports.length ≤ 16 ∧ errI rnS m.imports = 0 ∧ m.decls.length ≤ 64 ∧ ∀ d ∈ m.decls, errD rnS cnS d = 0 := by
  unfold errM
  rw [orE_zero, orE_zero, orE_zero, orE_zero, errDs_iff]
  have h1 : (if 16 < m.imports.length then (3 : Int) else 0) = 0 ↔ m.imports.length ≤ 16 := by split <;> simp <;> omega
  have h2 : (if 64 < m.decls.length then (3 : Int) else 0) = 0 ↔ m.decls.length ≤ 64 := by split <;> simp <;> omega
  rw [h1, h2]
theorem errD_iff (d : De) : errD rnS cnS d = 0 ↔ dD d ≤ 32 ∧ fitsD d = true ∧ rnS d.name = 0 ∧ d.params.length ≤ 8 ∧ errP rnS d.params = 0 ∧ errL rnS cnS d.e = 0 ∧ errS rnS cnS d.body = 0 := by
  unfold errD
  rw [orE_zero, orE_zero, orE_zero, orE_zero, orE_zero, orE_zero]
  have h1 : (if 32 < dD d then (13 : Int) else 0) = 0 ↔ dD d ≤ 32 := by split <;> simp <;> omega
  have h2 : (if 8 < d.params.length then (3 : Int) else 0) = 0 ↔ d.params.length ≤ 8 := by split <;> simp <;> omega
  have h3 : (if fitsD d = true then (0 : Int) else 1) = 0 ↔ fitsD d = true := by split <;> simp_all
  rw [h1, h2, h3]
theorem kinds {d : De} (h : fitsD d = true) : d.kind = 1 ∨ (d.kind = 2 ∧ d.ex = false) ∨ d.kind = 3 := by
  unfold fitsD at h
  split at h
  · left; assumption
  · split at h
    · right; left
      simp at h
      exact ⟨by assumption, h.1.1⟩
    · split at h
      · right; right; assumption
      · cases h
theorem kindsM {m : Mo} (h : errM rnS cnS m = 0) : ∀ d ∈ m.decls, d.kind = 1 ∨ (d.kind = 2 ∧ d.ex = false) ∨ d.kind = 3 := fun d hd => kinds ((errD_iff d).1 (((errM_iff m).1 h).2.2.2.2 d hd)).2.1
theorem exs_nil : ∀ (k : Exs), k.len = 0 → k = .nil
  | .nil, _ => rfl
  | .cons _ _ _, h => by simp [Exs.len] at h
theorem bare_right {d d' : De} (h : errD rnS cnS d = 0) (hd : d' ∈ bareO d) : errD rnS cnS d' = 0 := by
  unfold bareO at hd
  split at hd
  · rename_i hk
    have hd : d' = ⟨d.kind, d.ex, d.name, d.type, d.params, d.e, .nil⟩ := by simpa using hd
    subst hd
    rw [errD_iff] at h ⊢
    obtain ⟨h1, h2, h3, h4, h5, h6, h7⟩ := h
    have he : d.e = .nil := by
      unfold fitsD at h2
      rw [if_neg (by omega), if_neg (by omega), if_pos hk.1] at h2
      simp at h2
      exact exs_nil _ h2.2
    refine ⟨?_, ?_, h3, h4, h5, h6, rfl⟩
    · unfold dD
      rw [if_pos (Or.inl hk.1), he]
      show max (dL Exs.nil 0 0) (dS .nil 1 1) ≤ 32
      decide
    · unfold fitsD at h2 ⊢
      simp only at h2 ⊢
      rw [if_neg (by have := hk.1; omega), if_neg (by have := hk.1; omega), if_pos hk.1] at h2 ⊢
      exact h2
  · split at hd
    · have hd : d' = d := by simpa using hd
      rw [hd]; exact h
    · simp at hd
theorem bare_len : ∀ (l : List De), (bareD l).length ≤ l.length
  | [] => by simp [bareD]
  | d :: l => by
    have := bare_len l
    unfold bareD at this ⊢
    rw [List.flatMap_cons, List.length_append, List.length_cons]
    have : (bareO d).length ≤ 1 := by unfold bareO; split <;> (try split) <;> simp
    omega
theorem bareM_right {m : Mo} (h : errM rnS cnS m = 0) : errM rnS cnS (bareM m) = 0 := by
  rw [errM_iff] at h ⊢
  obtain ⟨h1, h2, h3, h4, h5⟩ := h
  refine ⟨h1, h2, h3, Nat.le_trans (bare_len _) h4, fun d hd => ?_⟩
  obtain ⟨e, he, hd⟩ := List.mem_flatMap.1 hd
  exact bare_right (h5 e he) hd
theorem bare_names : ∀ (l : List De), List.Sublist ((bareD l).map (·.name)) (l.map (·.name))
  | [] => by simp [bareD]
  | d :: l => by
    have ih := bare_names l
    have e : bareD (d :: l) = bareO d ++ bareD l := by unfold bareD; rw [List.flatMap_cons]
    rw [e, List.map_append, List.map_cons]
    have : (bareO d).map (·.name) = [d.name] ∨ (bareO d).map (·.name) = [] := by
      unfold bareO
      split
      · left; rfl
      · split
        · left; rfl
        · right; rfl
    rcases this with h | h
    · rw [h]; exact ih.cons_cons _
    · rw [h]; exact ih.cons _
theorem bare_cv : ∀ (l : List De), (bareD l).filter isCV = l.filter (fun d => d.kind == 1)
  | [] => by simp [bareD]
  | d :: l => by
    have ih := bare_cv l
    have e : bareD (d :: l) = bareO d ++ bareD l := by unfold bareD; rw [List.flatMap_cons]
    rw [e, List.filter_append, ih, List.filter_cons]
    unfold bareO
    split
    · rename_i hk
      rw [if_neg (by simp [hk.1])]
      simp [isCV, hk.1]
    · split
      · rename_i hk
        rw [if_pos (by simp [hk])]
        simp [isCV, hk]
      · rename_i hk
        rw [if_neg (by simpa using hk)]
        simp
theorem cv_const (l : List De) : (l.filter isCV).filter (fun d => d.kind == 1) = l.filter (fun d => d.kind == 1) := by
  rw [List.filter_filter]
  congr 1
  funext d
  by_cases h : d.kind = 1 <;> simp [isCV, h]
theorem cv_kinds {l : List De} : ∀ d ∈ l.filter isCV, d.kind = 1 ∨ d.kind = 2 := fun d hd => by
  have := (List.mem_filter.1 hd).2
  unfold isCV at this
  simpa using this
theorem bare_dec (far : List Con) (l : List De) (h : (decS far l).2.2.2 = 0) : (decS far (bareD l)).2.2 = (0, 0) ∧ (decS far (bareD l)).1 = (decS far l).1 := by
  obtain ⟨h1, h2, h3⟩ := dec_ev far l 0 [] [] [] h
  have ht : (evGo far (l.filter isCV) [] []).2.2 = true := by rw [h3]
  obtain ⟨q1, q2⟩ := ev_const far (l.filter isCV) [] [] [] cv_kinds ht
  rw [cv_const] at q1 q2
  have := ev_dec far (bareD l) 0 [] [] [] (h1.sublist (bare_names l)) (by simp) (by rw [bare_cv]; exact q1)
  unfold decS at *
  rw [this, bare_cv, q2, h3]
  exact ⟨rfl, rfl⟩
theorem bare_items : ∀ (l : List De) (cs : List Con), (∀ d ∈ l, d.kind = 1 ∨ (d.kind = 2 ∧ d.ex = false) ∨ d.kind = 3) → itemsS (bareD l) cs = itemsS l cs
  | [], cs, _ => rfl
  | d :: l, cs, h => by
    have e : bareD (d :: l) = bareO d ++ bareD l := by unfold bareD; rw [List.flatMap_cons]
    have ih := fun cs => bare_items l cs (fun x hx => h x (by simp [hx]))
    rw [e]
    rcases h d (by simp) with hk | ⟨hk, hx⟩ | hk
    · have : bareO d = [d] := by unfold bareO; rw [if_neg (by omega), if_pos hk]
      rw [this, List.singleton_append, itemsS, itemsS, ih]
    · have : bareO d = [] := by unfold bareO; rw [if_neg (by omega), if_neg (by omega)]
      rw [this, List.nil_append, ih, itemsS, hx, if_neg (by simp), if_neg (by omega)]
      rfl
    · cases hx : d.ex with
      | true =>
        have : bareO d = [⟨d.kind, d.ex, d.name, d.type, d.params, d.e, .nil⟩] := by unfold bareO; rw [if_pos ⟨hk, hx⟩]
        rw [this, List.singleton_append, itemsS, itemsS, ih]
        rfl
      | false =>
        have : bareO d = [] := by unfold bareO; rw [if_neg (by simp [hx]), if_neg (by omega)]
        rw [this, List.nil_append, ih, itemsS, hx, if_neg (by simp), if_neg (by omega)]
        rfl
theorem exP_ok {m : Mo} {l : List Ty.Fc} (h : (exP m l).2 = 0) : errM rnS cnS m = 0 ∧ ∃ g, impS l m.imports = some g ∧ (decS (farS g) m.decls).2.2.2 = 0 := by
  unfold exP at h
  split at h
  · rename_i h1; exact absurd h h1
  · rename_i h1
    refine ⟨by simpa using h1, ?_⟩
    split at h
    · cases h
    · rename_i g hg
      exact ⟨g, hg, h⟩
theorem exP_of {m : Mo} {l : List Ty.Fc} {g : List Ty.Fc} (h1 : errM rnS cnS m = 0) (h2 : impS l m.imports = some g) (h3 : (decS (farS g) m.decls).2.2 = (0, 0)) : exP m l = (0, 0) := by
  unfold exP
  rw [if_neg (by simp [h1]), h2]
  show ((decS (farS g) m.decls).2.2.1, (decS (farS g) m.decls).2.2.2) = (0, 0)
  rw [h3]
theorem exP_zero {m : Mo} {l : List Ty.Fc} (h : (exP m l).2 = 0) : (exP m l).1 = 0 := by
  obtain ⟨h1, g, h2, h3⟩ := exP_ok h
  unfold exP
  rw [if_neg (by simp [h1]), h2]
  exact decGo_zero _ _ _ _ _ _ h3
theorem decGo_at (far : List Con) : ∀ (l : List De) (i : Nat) (seen : List Bs) (cs vs : List Con), 0 ≤ (decGo far l i seen cs vs).2.2.1 ∧ (decGo far l i seen cs vs).2.2.1 ≤ ((i + l.length : Nat) : Int)
  | [], i, seen, cs, vs => by simp [decGo]
  | d :: r, i, seen, cs, vs => by
    have ih := fun seen cs vs => decGo_at far r (i + 1) seen cs vs
    have e : i + (d :: r).length = i + 1 + r.length := by simp; omega
    rw [e]
    unfold decGo
    split
    · constructor <;> simp <;> omega
    · split
      · exact ih _ _ _
      · split
        · constructor <;> simp <;> omega
        · split
          · exact ih _ _ _
          · exact ih _ _ _
theorem exP_at (m : Mo) (l : List Ty.Fc) : 0 ≤ (exP m l).1 ∧ (exP m l).1 ≤ (m.decls.length : Int) := by
  unfold exP
  split
  · constructor <;> simp
  · split
    · constructor <;> simp
    · rename_i g hg
      have := decGo_at (farS g) m.decls 0 [] [] []
      simpa [decS] using this
/-- What is not shown changes nothing. -/
theorem bare_exP {m : Mo} {l : List Ty.Fc} (h : (exP m l).2 = 0) : exP (bareM m) l = (0, 0) := by
  obtain ⟨h1, g, h2, h3⟩ := exP_ok h
  exact exP_of (bareM_right h1) h2 (bare_dec _ _ h3).1
theorem bare_isF {m : Mo} {l : List Ty.Fc} {f f' : Ty.Fc} (h : (exP m l).2 = 0) (h1 : IsF m l f) (h2 : IsF (bareM m) l f') : f = f' :=
  isF_one h1 h2 rfl (by rw [bare_exP h]; simp [h]) (fun g g' q1 q2 q3 q4 => by
    have q2 : impS l m.imports = some g' := q2
    rw [q1] at q2
    cases q2
    have e : (bareM m).decls = bareD m.decls := rfl
    rw [e, (bare_dec _ _ q3).2, bare_items _ _ (kindsM (exP_ok h).1)])
/- An interface that is drawn out is right. -/
theorem isTy_iff (t : Int) : isTy t = true ↔ (t = 1 ∨ t = 2 ∨ t = 3) := by simp [isTy, or_assoc]
theorem errP_ok : ∀ (l : List Pa), errP rnS l = 0 → ∀ p ∈ l, isTy p.type = true
  | [], _, p, hp => by simp at hp
  | q :: l, h, p, hp => by
    rw [errP, orE_zero, orE_zero] at h
    rcases List.mem_cons.1 hp with rfl | hp
    · by_cases ht : isTy p.type = true
      · exact ht
      · have := h.1.2
        rw [if_neg ht] at this
        cases this
    · exact errP_ok l h.2 p hp
/-- An item of a right declaration, with a right constant. -/
theorem itOf_right {d : De} {cs : List Con} (h : errD rnS cnS d = 0) (hx : d.ex = true) (hc : d.kind = 1 → ∃ c r, cs = c :: r ∧ c.t = d.type ∧ Ty.rightV c.t c.b = true) : Ty.rightI (itOf d cs) = 0 := by
  obtain ⟨h1, h2, h3, h4, h5, h6, h7⟩ := (errD_iff d).1 h
  have h3' : N.rightS d.name = 0 := h3
  unfold Ty.rightI
  have hk : d.kind = 1 ∨ d.kind = 3 := by rcases kinds h2 with q | ⟨_, q⟩ | q <;> first | exact Or.inl q | exact Or.inr q | (rw [hx] at q; cases q)
  rw [if_neg (by show ¬ (d.kind ≠ 1 ∧ d.kind ≠ 3); omega)]
  rw [if_neg (by show ¬ (N.rightS d.name ≠ 0); simp [h3'])]
  rw [if_neg (by show ¬ (8 < (d.params.map (·.type)).length); rw [List.length_map]; omega)]
  rcases hk with hk | hk
  · obtain ⟨c, r, rfl, q1, q2⟩ := hc hk
    rw [if_pos (show (itOf d (c :: r)).kind = 1 from hk)]
    have hp : d.params.length = 0 := by
      unfold fitsD at h2
      rw [if_pos hk] at h2
      simp at h2
      rw [h2.2.2.1]; rfl
    have : Ty.fitsConst (itOf d (c :: r)) = true := by
      unfold Ty.fitsConst itOf
      simp only [hk, if_pos rfl, List.headD_cons, List.length_map, hp, Bool.and_eq_true, decide_eq_true_eq, and_true]
      rw [q1] at q2
      exact q2
    rw [if_pos this]
  · rw [if_neg (show ¬ (itOf d cs).kind = 1 from by show ¬ d.kind = 1; omega)]
    have : Ty.fitsFn (itOf d cs) = true := by
      unfold Ty.fitsFn itOf
      have ht : d.type = 0 ∨ isTy d.type = true := by
        unfold fitsD at h2
        rw [if_neg (by omega), if_neg (by omega), if_pos hk] at h2
        simp at h2
        rcases h2.1 with q | q
        · exact Or.inl q
        · exact Or.inr q
      simp only [Bool.and_eq_true, Bool.or_eq_true, List.all_eq_true]
      refine ⟨⟨?_, ?_⟩, ?_⟩
      · rcases ht with q | q
        · left; simpa using q
        · right; rw [Ty.valued_iff]; rw [isTy_iff] at q; exact q
      · rw [if_neg (by omega)]; rfl
      · intro t ht
        obtain ⟨p, hp, rfl⟩ := List.mem_map.1 ht
        have := errP_ok _ h5 p hp
        rw [isTy_iff] at this
        rw [Ty.valued_iff]
        exact this
    rw [if_pos this]
theorem itemsS_right : ∀ (l : List De) (cs : List Con), (∀ d ∈ l, errD rnS cnS d = 0) → Fits (l.filter fun d => d.kind == 1) cs → ∀ i ∈ itemsS l cs, Ty.rightI i = 0
  | [], cs, _, _, i, hi => by simp [itemsS] at hi
  | d :: l, cs, h, hf, i, hi => by
    unfold itemsS at hi
    have hh : ∀ x ∈ l, errD rnS cnS x = 0 := fun x hx => h x (by simp [hx])
    by_cases hk : d.kind = 1
    · rw [List.filter_cons, if_pos (by simp [hk])] at hf
      cases cs with
      | nil => exact hf.elim
      | cons c r =>
        rcases List.mem_append.1 hi with hi | hi
        · split at hi
          · rename_i hx
            rw [List.mem_singleton.1 hi]
            exact itOf_right (h d (by simp)) hx (fun _ => ⟨c, r, rfl, hf.1.1, hf.1.2⟩)
          · simp at hi
        · rw [if_pos hk] at hi
          exact itemsS_right l r hh hf.2 i hi
    · rw [List.filter_cons, if_neg (by simpa using hk)] at hf
      rcases List.mem_append.1 hi with hi | hi
      · split at hi
        · rename_i hx
          rw [List.mem_singleton.1 hi]
          exact itOf_right (h d (by simp)) hx (fun q => absurd q hk)
        · simp at hi
      · rw [if_neg hk] at hi
        exact itemsS_right l cs hh hf i hi
theorem rightL_of : ∀ (a : Bs) (l : List Ty.It), (∀ i ∈ l, Ty.rightI i = 0 ∧ i.name ≠ a ∧ ¬ i.name < a) → (l.map (·.name)).Nodup → l.Pairwise (fun x y => ¬ y.name < x.name) → Ty.rightL a l = 0
  | a, [], _, _, _ => rfl
  | a, i :: l, h, hn, hp => by
    obtain ⟨h1, h2, h3⟩ := h i (by simp)
    rw [List.map_cons, List.nodup_cons] at hn
    rw [List.pairwise_cons] at hp
    unfold Ty.rightL
    rw [if_neg (by simp [h1]), if_neg h2, if_neg h3]
    exact rightL_of i.name l (fun j hj => ⟨(h j (by simp [hj])).1, fun e => hn.1 (by rw [← e]; exact List.mem_map_of_mem hj), hp.1 j hj⟩) hn.2 hp.2
theorem name_some {s : Bs} (h : N.rightS s = 0) : s ≠ [] := by
  intro e
  subst e
  exact absurd h (by decide)
theorem nil_least (s : Bs) : ¬ s < [] := by simp
theorem isF_right {m : Mo} {l : List Ty.Fc} {f : Ty.Fc} (he : (exP m l).2 = 0) (h : IsF m l f) : Ty.rightF f = 0 := by
  rcases h with ⟨h1, _⟩ | ⟨h1, h2, h3, g, h4, h5, h6, h7⟩
  · exact absurd he h1
  obtain ⟨e1, e2, e3, e4, e5⟩ := (errM_iff m).1 h3
  obtain ⟨d1, d2, d3⟩ := dec_ev (farS g) m.decls 0 [] [] [] h5
  have ht : (evGo (farS g) (m.decls.filter isCV) [] []).2.2 = true := by rw [d3]
  obtain ⟨new, n1, n2⟩ := ev_right (farS g) (m.decls.filter isCV) [] [] cv_kinds ht
  rw [cv_const] at n2
  have hcs : (decS (farS g) m.decls).1 = new := by
    rw [d3] at n1
    simpa [decS] using n1
  rw [hcs] at h6
  have hir : ∀ i ∈ f.items, Ty.rightI i = 0 := fun i hi => itemsS_right m.decls new e5 n2 i (h6.subset hi)
  have hnd : (f.items.map (·.name)).Nodup := perm_names h6 (itemsS_nodup new d1)
  have hlen : f.items.length ≤ 64 := by
    rw [h6.length_eq]
    have e : (itemsS m.decls new).length = ((m.decls.filter (·.ex)).map (·.name)).length := by rw [← itemsS_names m.decls new, List.length_map]
    rw [e, List.length_map]
    exact Nat.le_trans (List.length_filter_le _ _) e4
  have e1' : N.rightS m.name = 0 := e1
  unfold Ty.rightF
  rw [h2, if_neg (by simp [e1']), if_neg (by omega)]
  refine rightL_of [] f.items (fun i hi => ⟨hir i hi, ?_, nil_least _⟩) hnd h7
  have := hir i hi
  unfold Ty.rightI at this
  split at this
  · cases this
  · split at this
    · rename_i q; exact absurd this q
    · rename_i q
      exact name_some (by simpa using q)
end Go.Proofs.YtpjahcncknccdaaGreat.Fo.Ic
