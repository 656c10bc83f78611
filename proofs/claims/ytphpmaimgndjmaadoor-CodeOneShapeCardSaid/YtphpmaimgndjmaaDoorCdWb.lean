/- ways, of every instruction but try and untry. -/
import Derived.Test.YtphpmaimgndjmaaDoorCdWa
namespace Go.Proofs.YtphpmaimgndjmaaDoor.Cd
open Go.RowKit Ty
set_option linter.unusedSimpArgs false
set_option linter.unusedVariables false

variable {w : World} {f : Fu} {p : Fm} {q gs ga n k b3 o3 c2 c3 c4 c5 : Nat} {v0 : Value} {a2 a4 a5 : Option Addr} {L : Cs} {s : Sp} {g : Bool}
theorem vd_nil : Vd [] := fun x hx => by simp at hx
theorem tell_none (q : Nat) (op N t b k : Int) (hk : (k == 3) = false ∧ (k == 4) = false ∧ (k == 5) = false ∧ (k == 6) = false ∧ (k == 7) = false ∧ (k == 8) = false ∧ (k == 9) = false) (W : World) : toldC q op N t b k (encSt []) W :=
  told_none q op N t b (byR op) (lo op) (Cd.hi op) (nuR op) (taR op) (puR op) (trR op) (nmR op) (enR op) k hk W
theorem st_2 (N t b : Int) : stepS f p ⟨2, N, t, b⟩ s = (f.loc[N.toNat]?).bind fun t => on s (s.st ++ [t]) := by simp [stepS]
theorem st_3 (N t b : Int) : stepS f p ⟨3, N, t, b⟩ s = (f.loc[N.toNat]?).bind fun t => (tk s.st [t]).bind fun r => on s r := by simp [stepS]
theorem st_4 (N t b : Int) : stepS f p ⟨4, N, t, b⟩ s = (p.vars[N.toNat]?).bind fun t => on s (s.st ++ [t]) := by simp [stepS]
theorem st_5 (N t b : Int) : stepS f p ⟨5, N, t, b⟩ s = (p.vars[N.toNat]?).bind fun t => (tk s.st [t]).bind fun r => on s r := by simp [stepS]
theorem st_6 (N t b : Int) : stepS f p ⟨6, N, t, b⟩ s = (tp s.st).bind fun x => if (unS N x.2).2 = 0 then on s (x.1 ++ [(unS N x.2).1]) else none := by simp [stepS]
theorem st_7 (N t b : Int) : stepS f p ⟨7, N, t, b⟩ s = (tp s.st).bind fun x => (tp x.1).bind fun y => if (binS N y.2 x.2).2 = 0 then on s (y.1 ++ [(binS N y.2 x.2).1]) else none := by simp [stepS]
theorem st_8 (N t b : Int) : stepS f p ⟨8, N, t, b⟩ s = some (none, some s) := by simp [stepS]
theorem st_9 (N t b : Int) : stepS f p ⟨9, N, t, b⟩ s = (tk s.st [3]).bind fun r => some (some ⟨r, s.tr⟩, some ⟨r, s.tr⟩) := by simp [stepS]
theorem st_10 (N t b : Int) : stepS f p ⟨10, N, t, b⟩ s = (p.fns[N.toNat]?).bind fun g => (tk s.st g.ps).bind fun r => on s (if g.res = 0 then r else r ++ [g.res]) := by simp [stepS]
theorem st_12 (N t b : Int) : stepS f p ⟨12, N, t, b⟩ s = (tp s.st).bind fun x => on s x.1 := by simp [stepS]
theorem st_13 (N t b : Int) : stepS f p ⟨13, N, t, b⟩ s = (tk s.st [1]).bind fun _ => some (none, none) := by simp [stepS]
theorem st_14 (N t b : Int) : stepS f p ⟨14, N, t, b⟩ s = on s (s.st ++ [1]) := by simp [stepS]
theorem st_17 (N t b : Int) : stepS f p ⟨17, N, t, b⟩ s = (tp s.st).bind fun x => on s x.1 := by simp [stepS]
theorem n_nat (c : Ct w f p q gs ga n k b3 o3 c2 c3 c4 c5 v0 a2 a4 a5 L s g) {op N t b : Int} (hi : f.cd.getD k default = ⟨op, N, t, b⟩) : ∃ K : Nat, N = K := by
  have h0 := Int.le_trans (lo_pos _) (right_parts c.right).2.2.1
  rw [hi] at h0
  exact ⟨N.toNat, by simp only [] at h0; omega⟩
theorem site_of (c : Ct w f p q gs ga n k b3 o3 c2 c3 c4 c5 v0 a2 a4 a5 L s g) : Si w q v0 f.sg.res a2 (some ⟨b3, o3, none⟩) a4 a5 f.loc.length n p.fns.length p.vars.length c2 c3 c4 c5 := by
  obtain ⟨e0, e1, e2, e3, e4, e5, _, _⟩ := box8 c.wk.box
  exact ⟨e0, e1, e2, e3, e4, e5⟩
theorem inl_at {ao : Option Addr} {cap K : Nat} {l : List Int} (h : InL w ao cap l) (hK : K < l.length) : ∃ b off, ao = some ⟨b, off, none⟩ ∧ w.cell? ⟨b, off + K, none⟩ = some (ci l[K]) := by
  obtain ⟨b, off, rfl, hc⟩ := h.2.2.2.resolve_left (by rintro rfl; simp at hK)
  exact ⟨b, off, rfl, hc K _ (List.getElem?_eq_getElem hK)⟩
theorem cap_le {ao : Option Addr} {cap : Nat} {l : List Int} (h : InL w ao cap l) : cap ≤ 9223372036854775807 := by have := h.2.1; simpa [maxLen] using this
theorem loc_told (c : Ct w f p q gs ga n k b3 o3 c2 c3 c4 c5 v0 a2 a4 a5 L s g) (op K : Nat) (t b : Int) (hnu : nuR op = 1) (hK : K < f.loc.length) (W : World) (hW : Fr (fun _ => False) w W) : toldC q op K t b 6 (encSt [f.loc[K]]) W := by
  have hv := c.okF.loc f.loc[K] (List.getElem_mem hK)
  obtain ⟨bl, off, e, hc⟩ := inl_at c.loc hK
  have hs := (site_of c).c2
  have hcl := cap_le c.loc
  have hle := c.loc.1
  rw [e] at hs
  have := told_place q op K t b (byR op) (lo op) (Cd.hi op) (nuR op) (taR op) (puR op) (trR op) (nmR op) (enR op) f.loc[K] (Or.inr hv) W (fun W' hW' => by
    rw [hnu]
    exact place_loc q op K t b f.loc[K] bl off f.loc.length c2 hK hle hcl W' ((hW.same hW').cellN hs) ((hW.same hW').cellN hc))
  have e2 : oneS f.loc[K] = [f.loc[K]] := by unfold oneS; rw [if_neg (by intro e; rw [e] at hv; cases hv)]
  rw [e2] at this
  exact this
theorem var_told (c : Ct w f p q gs ga n k b3 o3 c2 c3 c4 c5 v0 a2 a4 a5 L s g) (op K : Nat) (t b : Int) (hnu : nuR op = 2) (hK : K < p.vars.length) (W : World) (hW : Fr (fun _ => False) w W) : toldC q op K t b 6 (encSt [p.vars[K]]) W := by
  have hv := c.okF.vars p.vars[K] (List.getElem_mem hK)
  obtain ⟨bl, off, e, hc⟩ := inl_at c.vars hK
  have hs := (site_of c).c5
  have hcl := cap_le c.vars
  have hle := c.vars.1
  rw [e] at hs
  have := told_place q op K t b (byR op) (lo op) (Cd.hi op) (nuR op) (taR op) (puR op) (trR op) (nmR op) (enR op) p.vars[K] (Or.inr hv) W (fun W' hW' => by
    rw [hnu]
    exact place_var q op K t b p.vars[K] bl off p.vars.length c5 hK hle hcl W' ((hW.same hW').cellN hs) ((hW.same hW').cellN hc))
  have e2 : oneS p.vars[K] = [p.vars[K]] := by unfold oneS; rw [if_neg (by intro e; rw [e] at hv; cases hv)]
  rw [e2] at this
  exact this
theorem has_1 (K a b c d : Nat) : hasS 1 (K : Int) a b c d = decide (K < a) := by unfold hasS; simp
theorem has_2 (K a b c d : Nat) : hasS 2 (K : Int) a b c d = decide (K < d) := by unfold hasS; simp
theorem has_3 (K a b c d : Nat) : hasS 3 (K : Int) a b c d = decide (K < c) := by unfold hasS; simp
theorem has_4 (K a b c d : Nat) : hasS 4 (K : Int) a b c d = decide (K < b) := by unfold hasS; simp
theorem kw_2 (c : Ct w f p q gs ga n k b3 o3 c2 c3 c4 c5 v0 a2 a4 a5 L s g) (N t b : Int) (hi : f.cd.getD k default = ⟨2, N, t, b⟩) : KW w f p q k s := by
  obtain ⟨K, rfl⟩ := n_nat c hi
  have e : hasS (nuR 2) (K : Int) f.loc.length n p.fns.length p.vars.length = decide (K < f.loc.length) := has_1 _ _ _ _ _
  by_cases hK : K < f.loc.length
  · refine kw_told c 2 K t b hi [] [f.loc[K]] vd_nil (Vd.one (c.okF.loc _ (List.getElem_mem hK))) (by simp) (by decide) (by decide) (by decide) (by decide) (by decide) (fun _ W _ => tell_none q 2 K t b _ (by decide) W) (fun _ W hW => loc_told c 2 K t b rfl hK W hW) (fun e => absurd e (by decide)) ?_
    rw [st_2, e, decide_eq_true hK, tk_nil]
    simp [hK, on, show enR 2 = false from rfl, show nuR 2 = 1 from rfl]
  · refine kw_told c 2 K t b hi [] [] vd_nil vd_nil (by simp) (by decide) (by decide) (by decide) (by decide) (by decide) (fun h => by rw [e] at h; simp at h; omega) (fun h => by rw [e] at h; simp at h; omega) (by decide) ?_
    rw [st_2, e, decide_eq_false hK]
    simp [show f.loc.length ≤ K by omega]
theorem kw_3 (c : Ct w f p q gs ga n k b3 o3 c2 c3 c4 c5 v0 a2 a4 a5 L s g) (N t b : Int) (hi : f.cd.getD k default = ⟨3, N, t, b⟩) : KW w f p q k s := by
  obtain ⟨K, rfl⟩ := n_nat c hi
  have e : hasS (nuR 3) (K : Int) f.loc.length n p.fns.length p.vars.length = decide (K < f.loc.length) := has_1 _ _ _ _ _
  by_cases hK : K < f.loc.length
  · refine kw_told c 3 K t b hi [f.loc[K]] [] (Vd.one (c.okF.loc _ (List.getElem_mem hK))) vd_nil (by simp) (by decide) (by decide) (by decide) (by decide) (by decide) (fun _ W hW => loc_told c 3 K t b rfl hK W hW) (fun _ W _ => tell_none q 3 K t b _ (by decide) W) (by decide) ?_
    rw [st_3, e, decide_eq_true hK]
    have hget : f.loc[(K : Int).toNat]? = some f.loc[K] := by simp [hK]
    rw [hget, Option.bind_some]
    cases tk s.st [f.loc[K]] <;> simp [on, show enR 3 = false from rfl, show nuR 3 = 1 from rfl]
  · refine kw_told c 3 K t b hi [] [] vd_nil vd_nil (by simp) (by decide) (by decide) (by decide) (by decide) (by decide) (fun h => by rw [e] at h; simp at h; omega) (fun h => by rw [e] at h; simp at h; omega) (by decide) ?_
    rw [st_3, e, decide_eq_false hK]
    simp [show f.loc.length ≤ K by omega]
theorem kw_4 (c : Ct w f p q gs ga n k b3 o3 c2 c3 c4 c5 v0 a2 a4 a5 L s g) (N t b : Int) (hi : f.cd.getD k default = ⟨4, N, t, b⟩) : KW w f p q k s := by
  obtain ⟨K, rfl⟩ := n_nat c hi
  have e : hasS (nuR 4) (K : Int) f.loc.length n p.fns.length p.vars.length = decide (K < p.vars.length) := has_2 _ _ _ _ _
  by_cases hK : K < p.vars.length
  · refine kw_told c 4 K t b hi [] [p.vars[K]] vd_nil (Vd.one (c.okF.vars _ (List.getElem_mem hK))) (by simp) (by decide) (by decide) (by decide) (by decide) (by decide) (fun _ W _ => tell_none q 4 K t b _ (by decide) W) (fun _ W hW => var_told c 4 K t b rfl hK W hW) (fun e => absurd e (by decide)) ?_
    rw [st_4, e, decide_eq_true hK, tk_nil]
    simp [hK, on, show enR 4 = false from rfl, show nuR 4 = 2 from rfl]
  · refine kw_told c 4 K t b hi [] [] vd_nil vd_nil (by simp) (by decide) (by decide) (by decide) (by decide) (by decide) (fun h => by rw [e] at h; simp at h; omega) (fun h => by rw [e] at h; simp at h; omega) (by decide) ?_
    rw [st_4, e, decide_eq_false hK]
    simp [show p.vars.length ≤ K by omega]
theorem kw_5 (c : Ct w f p q gs ga n k b3 o3 c2 c3 c4 c5 v0 a2 a4 a5 L s g) (N t b : Int) (hi : f.cd.getD k default = ⟨5, N, t, b⟩) : KW w f p q k s := by
  obtain ⟨K, rfl⟩ := n_nat c hi
  have e : hasS (nuR 5) (K : Int) f.loc.length n p.fns.length p.vars.length = decide (K < p.vars.length) := has_2 _ _ _ _ _
  by_cases hK : K < p.vars.length
  · refine kw_told c 5 K t b hi [p.vars[K]] [] (Vd.one (c.okF.vars _ (List.getElem_mem hK))) vd_nil (by simp) (by decide) (by decide) (by decide) (by decide) (by decide) (fun _ W hW => var_told c 5 K t b rfl hK W hW) (fun _ W _ => tell_none q 5 K t b _ (by decide) W) (by decide) ?_
    rw [st_5, e, decide_eq_true hK]
    have hget : p.vars[(K : Int).toNat]? = some p.vars[K] := by simp [hK]
    rw [hget, Option.bind_some]
    cases tk s.st [p.vars[K]] <;> simp [on, show enR 5 = false from rfl, show nuR 5 = 2 from rfl]
  · refine kw_told c 5 K t b hi [] [] vd_nil vd_nil (by simp) (by decide) (by decide) (by decide) (by decide) (by decide) (fun h => by rw [e] at h; simp at h; omega) (fun h => by rw [e] at h; simp at h; omega) (by decide) ?_
    rw [st_5, e, decide_eq_false hK]
    simp [show p.vars.length ≤ K by omega]
/-- Jumps beyond the end. -/
theorem kw_out (c : Ct w f p q gs ga n k b3 o3 c2 c3 c4 c5 v0 a2 a4 a5 L s g) (op K : Nat) (t b : Int) (hi : f.cd.getD k default = ⟨op, K, t, b⟩) (h15 : (op : Int) ≠ 15) (h16 : (op : Int) ≠ 16) (hnu : nuR op = 4) (hK : n ≤ K)
    (hst : stepS f p ⟨op, K, t, b⟩ s = none ∨ ∃ a b', stepS f p ⟨op, K, t, b⟩ s = some (a, some b')) : KW w f p q k s := by
  have hp := right_parts c.right
  rw [hi] at hp
  have hkn : k < n := by rw [← c.wk.len]; exact (List.getElem?_eq_some_iff.1 c.at').1
  have htr : trR op = 0 := by
    unfold trR
    rw [if_neg h15, if_neg h16]
  have hcell := c.cell
  rw [hi] at hcell
  have ew : wayS f p k s = (51, []) := by
    unfold wayS
    rw [hi]
    rcases hst with e | ⟨a, b', e⟩
    · rw [e]
    · rw [e]
      simp only []
      rw [if_pos]
      simp [c.len]
      omega
  have kk := ways_w q gs ga n k b3 o3 c3 v0 (ci f.sg.res) (.slice a2 f.loc.length c2) (.slice a4 p.fns.length c4) (.slice a5 p.vars.length c5) L s [] [] g op K t b (byR op) (lo op) (Cd.hi op) (nuR op) (taR op) (puR op) (trR op) (nmR op) (enR op) false false w c.wk c.at' (by have := c.n1; omega) c.le c.le2
    (hcell 0 _ rfl) (hcell 1 _ rfl) (hcell 2 _ rfl) (hcell 3 _ rfl) (by simpa using h15) (by simpa using h16) htr (over_len c.ov).2 (fun e => by cases e) (by simp)
    (fun W => by have := row_is op W; rw [hp.1] at this; exact this)
    (fun W hW => by
      have := has_any q v0 f.sg.res a2 (some ⟨b3, o3, none⟩) a4 a5 f.loc.length n p.fns.length p.vars.length c2 c3 c4 c5 op K t b (nuR op) (nuR_vals _) W ((site_of c).keep hW)
      rw [hnu, has_4, decide_eq_false (by omega)] at this
      rw [hnu]
      exact this)
    (fun e => by cases e)
  have er : wyR k n false false (enR op) (nuR op) K [] s = (51, []) := by unfold wyR; rw [if_pos (Or.inl rfl)]
  rw [er] at kk
  unfold KW
  rw [ew]
  exact kk
theorem kw_8 (c : Ct w f p q gs ga n k b3 o3 c2 c3 c4 c5 v0 a2 a4 a5 L s g) (N t b : Int) (hi : f.cd.getD k default = ⟨8, N, t, b⟩) : KW w f p q k s := by
  obtain ⟨K, rfl⟩ := n_nat c hi
  have e : hasS (nuR 8) (K : Int) f.loc.length n p.fns.length p.vars.length = decide (K < n) := has_4 _ _ _ _ _
  by_cases hK : K < n
  · refine kw_told c 8 K t b hi [] [] vd_nil vd_nil (by simp) (by decide) (by decide) (by decide) (by decide) (by decide) (fun _ W _ => tell_none q 8 K t b _ (by decide) W) (fun _ W _ => tell_none q 8 K t b _ (by decide) W) (fun _ => rfl) ?_
    rw [st_8, e, decide_eq_true hK, tk_nil]
    simp [show enR 8 = true from rfl, show nuR 8 = 4 from rfl]
  · exact kw_out c 8 K t b hi (by decide) (by decide) rfl (by omega) (Or.inr ⟨_, _, st_8 _ _ _⟩)
theorem kw_9 (c : Ct w f p q gs ga n k b3 o3 c2 c3 c4 c5 v0 a2 a4 a5 L s g) (N t b : Int) (hi : f.cd.getD k default = ⟨9, N, t, b⟩) : KW w f p q k s := by
  obtain ⟨K, rfl⟩ := n_nat c hi
  have e : hasS (nuR 9) (K : Int) f.loc.length n p.fns.length p.vars.length = decide (K < n) := has_4 _ _ _ _ _
  by_cases hK : K < n
  · refine kw_told c 9 K t b hi [3] [] (Vd.one (by decide)) vd_nil (by simp) (by decide) (by decide) (by decide) (by decide) (by decide) (fun _ W _ => told_bool q 9 K t b (byR 9) (lo 9) (Cd.hi 9) (nuR 9) (taR 9) (puR 9) (trR 9) (nmR 9) (enR 9) W) (fun _ W _ => tell_none q 9 K t b _ (by decide) W) (by decide) ?_
    rw [st_9, e, decide_eq_true hK]
    cases tk s.st [3] <;> simp [show enR 9 = false from rfl, show nuR 9 = 4 from rfl]
  · refine kw_out c 9 K t b hi (by decide) (by decide) rfl (by omega) ?_
    have e9 := st_9 (f := f) (p := p) (s := s) K t b
    cases h : tk s.st [3] with
    | none => rw [h] at e9; exact Or.inl e9
    | some r => rw [h] at e9; exact Or.inr ⟨_, _, e9⟩
theorem kw_10 (c : Ct w f p q gs ga n k b3 o3 c2 c3 c4 c5 v0 a2 a4 a5 L s g) (hps : ∀ g ∈ p.fns, g.ps.length ≤ 17592186044416) (N t b : Int) (hi : f.cd.getD k default = ⟨10, N, t, b⟩) : KW w f p q k s := by
  obtain ⟨K, rfl⟩ := n_nat c hi
  have e : hasS (nuR 10) (K : Int) f.loc.length n p.fns.length p.vars.length = decide (K < p.fns.length) := has_3 _ _ _ _ _
  by_cases hK : K < p.fns.length
  · obtain ⟨bl, off, ea, hcs⟩ := c.fns.2.2.2.resolve_left (by intro e; rw [e] at hK; simp at hK)
    obtain ⟨ap, cp, hI, hc0, hc1⟩ := hcs K _ (List.getElem?_eq_getElem hK)
    have hle := c.fns.1
    have hcl : c4 ≤ 9223372036854775807 := by have := c.fns.2.1; simpa [maxLen] using this
    have hs := (site_of c).c4
    rw [ea] at hs
    have hok := c.okF.fns _ (List.getElem_mem hK)
    refine kw_told c 10 K t b hi p.fns[K].ps (oneS p.fns[K].res) hok.1 (oneS_vd hok.2) (by have := oneS_len p.fns[K].res; omega) (by decide) (by decide) (by decide) (by decide) (by decide)
      (fun _ W hW => told_fnps q K 10 t b (byR 10) (lo 10) (Cd.hi 10) (nuR 10) (taR 10) (puR 10) (trR 10) (nmR 10) (enR 10) bl off p.fns.length c4 ap _ cp p.fns[K].ps rfl hok.1 (hps _ (List.getElem_mem hK)) hK hle hcl W (hW.cellN hs) (hW.cellN hc0) (hI.keep hW))
      (fun _ W hW => told_fnres q K 10 t b (byR 10) (lo 10) (Cd.hi 10) (nuR 10) (taR 10) (puR 10) (trR 10) (nmR 10) (enR 10) bl off p.fns.length c4 p.fns[K].res hok.2 hK hle hcl W (hW.cellN hs) (hW.cellN hc1)) (fun e => absurd e (by decide)) ?_
    rw [st_10, e, decide_eq_true hK]
    have ho : ∀ r : List Int, (if p.fns[K].res = 0 then r else r ++ [p.fns[K].res]) = r ++ oneS p.fns[K].res := fun r => by
      unfold oneS
      split <;> simp
    have hget : p.fns[(K : Int).toNat]? = some p.fns[K] := by simp [hK]
    rw [hget, Option.bind_some]
    cases h : tk s.st p.fns[K].ps <;> simp [h, on, ho, show enR 10 = false from rfl, show nuR 10 = 3 from rfl]
  · refine kw_told c 10 K t b hi [] [] vd_nil vd_nil (by simp) (by decide) (by decide) (by decide) (by decide) (by decide) (fun h => by rw [e] at h; simp at h; omega) (fun h => by rw [e] at h; simp at h; omega) (by decide) ?_
    rw [st_10, e, decide_eq_false hK]
    simp [show p.fns.length ≤ K by omega]
theorem kw_13 (c : Ct w f p q gs ga n k b3 o3 c2 c3 c4 c5 v0 a2 a4 a5 L s g) (N t b : Int) (hi : f.cd.getD k default = ⟨13, N, t, b⟩) : KW w f p q k s := by
  refine kw_told c 13 N t b hi [1] [] (Vd.one (by decide)) vd_nil (by simp) (by decide) (by decide) (by decide) (by decide) (by decide) (fun _ W _ => told_int q 13 N t b (byR 13) (lo 13) (Cd.hi 13) (nuR 13) (taR 13) (puR 13) (trR 13) (nmR 13) (enR 13) W) (fun _ W _ => tell_none q 13 N t b _ (by decide) W) (fun _ => rfl) ?_
  rw [st_13, show hasS (nuR 13) N f.loc.length n p.fns.length p.vars.length = true from rfl, if_pos rfl]
  cases tk s.st [1] <;> simp [show enR 13 = true from rfl, show nuR 13 = 0 from rfl]
theorem kw_14 (c : Ct w f p q gs ga n k b3 o3 c2 c3 c4 c5 v0 a2 a4 a5 L s g) (N t b : Int) (hi : f.cd.getD k default = ⟨14, N, t, b⟩) : KW w f p q k s := by
  refine kw_told c 14 N t b hi [] [1] vd_nil (Vd.one (by decide)) (by simp) (by decide) (by decide) (by decide) (by decide) (by decide) (fun _ W _ => tell_none q 14 N t b _ (by decide) W) (fun _ W _ => told_int q 14 N t b (byR 14) (lo 14) (Cd.hi 14) (nuR 14) (taR 14) (puR 14) (trR 14) (nmR 14) (enR 14) W) (by decide) ?_
  rw [st_14, show hasS (nuR 14) N f.loc.length n p.fns.length p.vars.length = true from rfl, if_pos rfl, tk_nil]
  simp [on, show enR 14 = false from rfl, show nuR 14 = 0 from rfl]
theorem put_nothing (q : Nat) (op N t b : Int) (x : Bs) (hpu : puR op = 0) (W : World) : Calls Tryd.prog 67 #[.pointer (some ⟨q, 0, none⟩), .agg #[ci op, ci N, ci t, .int .u64 b], rwV op, ct x] W fun e w' => e = .returned (.tuple #[ct (encSt []), .bool true]) ∧ Fr (fun _ => False) W w' :=
  put_told q op N t b (byR op) (lo op) (Cd.hi op) (nuR op) (taR op) (puR op) (trR op) (nmR op) (enR op) x [] (by rw [hpu]; rfl) W (fun W' _ => tell_none q op N t b (puR op) (by rw [hpu]; decide) W')
theorem kw_12 (c : Ct w f p q gs ga n k b3 o3 c2 c3 c4 c5 v0 a2 a4 a5 L s g) (op N t b : Int) (hop : op = 12 ∨ op = 17) (hi : f.cd.getD k default = ⟨op, N, t, b⟩) : KW w f p q k s := by
  have hst : stepS f p ⟨op, N, t, b⟩ s = (tp s.st).bind fun x => on s x.1 := by rcases hop with rfl | rfl; exact st_12 N t b; exact st_17 N t b
  have h1 : taR op = 1 ∧ nuR op = 0 ∧ enR op = false ∧ puR op = 0 ∧ op ≠ 15 ∧ op ≠ 16 := by rcases hop with rfl | rfl <;> decide
  obtain ⟨h1, h2, h3, h4, h5, h6⟩ := h1
  cases h : tp s.st with
  | none =>
    rw [h] at hst
    refine kw_none c op N t b hi [] h5 h6 (Or.inl h1) ?_ hst
    rw [tp_none h, h1]; rfl
  | some x =>
    obtain ⟨r, z⟩ := x
    rw [h] at hst
    refine kw_any c op N t b hi r [z] [] true (by simp) (tp_sub h).2.2 h5 h6 (Or.inl h1) ?_ h2 h3 (fun W _ => put_nothing q op N t b _ h4 W) ?_
    · rw [h1, ← (tp_sub h).2.2]; exact top_one h []
    · rw [hst]; simp [on]
theorem un_all (op t : Int) : (unS op t).1 = 0 ∨ valued (unS op t).1 = true := by
  by_cases h : (unS op t).2 = 0
  · exact Or.inr (un_val h)
  · left
    unfold unS at h ⊢
    repeat' split at h
    all_goals first
      | (exfalso; exact h rfl)
      | simp_all
theorem taken_all (x1 x2 x3 t : Int) (h1 : x1 = 0 ∨ valued x1 = true) (h2 : x2 = 0 ∨ valued x2 = true) (h3 : x3 = 0 ∨ valued x3 = true) : (takenS x1 x2 x3 t).1 = 0 ∨ valued (takenS x1 x2 x3 t).1 = true := by
  unfold takenS
  repeat' split
  all_goals first
    | exact Or.inl rfl
    | (simp only []; assumption)
theorem bin_all (op t u : Int) : (binS op t u).1 = 0 ∨ valued (binS op t u).1 = true := by
  unfold binS
  split
  · exact Or.inl rfl
  split
  · exact Or.inl rfl
  exact taken_all _ _ _ t (rowB_val op).1 (rowB_val op).2.1 (rowB_val op).2.2
theorem one_val {u : Int} (h : valued u = true) : oneS u = [u] := by unfold oneS; rw [if_neg (by intro e; rw [e] at h; cases h)]
theorem kw_6 (c : Ct w f p q gs ga n k b3 o3 c2 c3 c4 c5 v0 a2 a4 a5 L s g) (N t b : Int) (hi : f.cd.getD k default = ⟨6, N, t, b⟩) : KW w f p q k s := by
  have hst := st_6 (f := f) (p := p) (s := s) N t b
  cases h : tp s.st with
  | none =>
    rw [h] at hst
    refine kw_none c 6 N t b hi [] (by decide) (by decide) (Or.inl rfl) ?_ hst
    rw [tp_none h]; rfl
  | some x =>
    obtain ⟨r, z⟩ := x
    rw [h] at hst
    have hz := c.ok.st z (tp_sub h).2.1
    refine kw_any c 6 N t b hi r [z] (oneS (unS N z).1) ((unS N z).2 == 0) (by have := oneS_len (unS N z).1; omega) (tp_sub h).2.2 (by decide) (by decide) (Or.inl rfl) ?_ rfl rfl (fun W _ => put_making q 6 N t b (byR 6) (lo 6) (Cd.hi 6) (nuR 6) (taR 6) (trR 6) (nmR 6) (enR 6) _ _ _ (un_all N z) W (fun W' => making_1 N z hz W')) ?_
    · rw [← (tp_sub h).2.2]; exact top_one h []
    · rw [hst]
      by_cases he : (unS N z).2 = 0
      · simp [he, on, one_val (un_val he)]
      · simp [he]
theorem kw_7 (c : Ct w f p q gs ga n k b3 o3 c2 c3 c4 c5 v0 a2 a4 a5 L s g) (N t b : Int) (hi : f.cd.getD k default = ⟨7, N, t, b⟩) : KW w f p q k s := by
  have hst := st_7 (f := f) (p := p) (s := s) N t b
  cases h : tp s.st with
  | none =>
    rw [h] at hst
    refine kw_none c 7 N t b hi [] (by decide) (by decide) (Or.inr rfl) ?_ hst
    rw [tp_none h]; rfl
  | some x =>
    obtain ⟨r, z⟩ := x
    rw [h] at hst
    have e1 := (tp_sub h).2.2
    simp only [Option.bind_some] at hst
    cases h2 : tp r with
    | none =>
      rw [h2] at hst
      have er := tp_none h2
      subst er
      refine kw_none c 7 N t b hi [] (by decide) (by decide) (Or.inr rfl) ?_ hst
      rw [e1]; rfl
    | some y =>
      obtain ⟨r', u⟩ := y
      rw [h2] at hst
      have e2 := (tp_sub h2).2.2
      have hz := c.ok.st z (tp_sub h).2.1
      have hu := c.ok.st u ((tp_sub h).1 u (tp_sub h2).2.1)
      have e3 : s.st = r' ++ [u, z] := by rw [e1, e2]; simp
      refine kw_any c 7 N t b hi r' [u, z] (oneS (binS N u z).1) ((binS N u z).2 == 0) (by have := oneS_len (binS N u z).1; omega) e3 (by decide) (by decide) (Or.inr rfl) ?_ rfl rfl (fun W _ => put_making q 7 N t b (byR 7) (lo 7) (Cd.hi 7) (nuR 7) (taR 7) (trR 7) (nmR 7) (enR 7) _ _ _ (bin_all N u z) W (fun W' => making_2 N u z hu hz W')) ?_
      · rw [← e3]; exact top_two h h2 []
      · rw [hst]
        by_cases he : (binS N u z).2 = 0
        · simp [he, on, one_val (bin_val he)]
        · simp [he]
end Go.Proofs.YtphpmaimgndjmaaDoor.Cd
