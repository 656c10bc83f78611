/- Texts of ours, in one. -/
import Derived.Test.YtoiglopilpoafaaGreatDoorCdWa
namespace Go.Proofs.YtoiglopilpoafaaGreatDoor.Cd
open Go.RowKit Ty
set_option linter.unusedSimpArgs false
set_option linter.unusedVariables false

variable {w : World} {f : Fu} {p : Fm} {q gs ga n k b3 o3 c2 c3 c4 c5 : Nat} {v0 : Value} {a2 a4 a5 : Option Addr} {L : Cs} {s : Sp} {g : Bool}
theorem vd_nil : Vd [] := fun x hx => by simp at hx
theorem tell_none (q : Nat) (op N t b k : Int) (hk : (k == 3) = false ∧ (k == 4) = false ∧ (k == 5) = false ∧ (k == 6) = false ∧ (k == 7) = false ∧ (k == 8) = false ∧ (k == 9) = false) (W : World) : toldC q op N t b k (encSt []) W :=
  told_none q op N t b (byR op) (lo op) (Cd.hi op) (nuR op) (taR op) (puR op) (trR op) (nmR op) (enR op) k hk W
theorem st_2 (N t b : Int) : stepS f p ⟨2, N, t, b⟩ s = (f.loc[N.toNat]?).bind fun t => on s (s.st ++ [t]) := by simp [stepS]
theorem st_3 (N t b : Int) : stepS f p ⟨3, N, t, b⟩ s = (f.loc[N.toNat]?).bind fun t => (tk s.st [t]).bind fun r => on s r := by simp [stepS]
theorem st_4 (N t b : Int) : stepS f p ⟨4, N, t, b⟩ s = (p.vars[N.toNat]?).bind fun t => on s (s.st ++ [t]) := by simp [stepS]
theorem st_5 (N t b : Int) : stepS f p ⟨5, N, t, b⟩ s = (p.vars[N.toNat]?).bind fun t => (tk s.st [t]).bind fun r => on s r := by simp [stepS]
theorem st_6 (N t b : Int) : stepS f p ⟨6, N, t, b⟩ s = (tp s.st).bind fun x => if (unS N x.2).2 = 0 then on s (x.1 ++ [(unS N x.2).1]) else none := by simp [stepS]
theorem st_7 (N t b : Int) : stepS f p ⟨7, N, t, b⟩ s = (tp s.st).bind fun x => (tp x.1).bind fun y => if (binS N y.2 x.2).2 = 0 then on s (y.1 ++ [(binS N y.2 x.2).1]) else none := by simp [stepS]
theorem st_8 (N t b : Int) : stepS f p ⟨8, N, t, b⟩ s = some (none, some s) := by simp [stepS]
theorem st_9 (N t b : Int) : stepS f p ⟨9, N, t, b⟩ s = (tk s.st [3]).bind fun r => some (some ⟨r, s.tr⟩, some ⟨r, s.tr⟩) := by simp [stepS]
theorem st_10 (N t b : Int) : stepS f p ⟨10, N, t, b⟩ s = (p.fns[N.toNat]?).bind fun g => (tk s.st g.ps).bind fun r => on s (if g.res = 0 then r else r ++ [g.res]) := by simp [stepS]
theorem st_12 (N t b : Int) : stepS f p ⟨12, N, t, b⟩ s = (tp s.st).bind fun x => on s x.1 := by simp [stepS]
theorem st_13 (N t b : Int) : stepS f p ⟨13, N, t, b⟩ s = (tk s.st [1]).bind fun _ => some (none, none) := by simp [stepS]
theorem st_14 (N t b : Int) : stepS f p ⟨14, N, t, b⟩ s = on s (s.st ++ [1]) := by simp [stepS]
theorem st_17 (N t b : Int) : stepS f p ⟨17, N, t, b⟩ s = (tp s.st).bind fun x => on s x.1 := by simp [stepS]
theorem n_nat (c : Ct w f p q gs ga n k b3 o3 c2 c3 c4 c5 v0 a2 a4 a5 L s g) {op N t b : Int} (hi : f.cd.getD k default = ⟨op, N, t, b⟩) : ∃ K : Nat, N = K := by
  have h0 := Int.le_trans (lo_pos _) (right_parts c.right).2.2.1
  rw [hi] at h0
  exact ⟨N.toNat, by simp only [] at h0; omega⟩
theorem site_of (c : Ct w f p q gs ga n k b3 o3 c2 c3 c4 c5 v0 a2 a4 a5 L s g) : Si w q v0 f.sg.res a2 (some ⟨b3, o3, none⟩) a4 a5 f.loc.length n p.fns.length p.vars.length c2 c3 c4 c5 := by
  obtain ⟨e0, e1, e2, e3, e4, e5, _, _⟩ := box8 c.wk.box
  exact ⟨e0, e1, e2, e3, e4, e5⟩
theorem inl_at {ao : Option Addr} {cap K : Nat} {l : List Int} (h : InL w ao cap l) (hK : K < l.length) : ∃ b off, ao = some ⟨b, off, none⟩ ∧ w.cell? ⟨b, off + K, none⟩ = some (ci l[K]) := by
  obtain ⟨b, off, rfl, hc⟩ := h.2.2.2.resolve_left (by rintro rfl; simp at hK)
  exact ⟨b, off, rfl, hc K _ (List.getElem?_eq_getElem hK)⟩
theorem cap_le {ao : Option Addr} {cap : Nat} {l : List Int} (h : InL w ao cap l) : cap ≤ 9223372036854775807 := by have := h.2.1; simpa [maxLen] using this
theorem loc_told (c : Ct w f p q gs ga n k b3 o3 c2 c3 c4 c5 v0 a2 a4 a5 L s g) (op K : Nat) (t b : Int) (hnu : nuR op = 1) (hK : K < f.loc.length) (W : World) (hW : Fr (fun _ => False) w W) : toldC q op K t b 6 (encSt [f.loc[K]]) W := by
  have hv := c.okF.loc f.loc[K] (List.getElem_mem hK)
  obtain ⟨bl, off, e, hc⟩ := inl_at c.loc hK
  have hs := (site_of c).c2
  have hcl := cap_le c.loc
  have hle := c.loc.1
  rw [e] at hs
  have := told_place q op K t b (byR op) (lo op) (Cd.hi op) (nuR op) (taR op) (puR op) (trR op) (nmR op) (enR op) f.loc[K] (Or.inr hv) W (fun W' hW' => by
    rw [hnu]
    exact place_loc q op K t b f.loc[K] bl off f.loc.length c2 hK hle hcl W' ((hW.same hW').cellN hs) ((hW.same hW').cellN hc))
  have e2 : oneS f.loc[K] = [f.loc[K]] := by unfold oneS; rw [if_neg (by intro e; rw [e] at hv; cases hv)]
  rw [e2] at this
  exact this
theorem var_told (c : Ct w f p q gs ga n k b3 o3 c2 c3 c4 c5 v0 a2 a4 a5 L s g) (op K : Nat) (t b : Int) (hnu : nuR op = 2) (hK : K < p.vars.length) (W : World) (hW : Fr (fun _ => False) w W) : toldC q op K t b 6 (encSt [p.vars[K]]) W := by
  have hv := c.okF.vars p.vars[K] (List.getElem_mem hK)
  obtain ⟨bl, off, e, hc⟩ := inl_at c.vars hK
  have hs := (site_of c).c5
  have hcl := cap_le c.vars
  have hle := c.vars.1
  rw [e] at hs
  have := told_place q op K t b (byR op) (lo op) (Cd.hi op) (nuR op) (taR op) (puR op) (trR op) (nmR op) (enR op) p.vars[K] (Or.inr hv) W (fun W' hW' => by
    rw [hnu]
    exact place_var q op K t b p.vars[K] bl off p.vars.length c5 hK hle hcl W' ((hW.same hW').cellN hs) ((hW.same hW').cellN hc))
  have e2 : oneS p.vars[K] = [p.vars[K]] := by unfold oneS; rw [if_neg (by intro e; rw [e] at hv; cases hv)]
  rw [e2] at this
  exact this
theorem has_1 (K a b c d : Nat) : hasS 1 (K : Int) a b c d = decide (K < a) := by unfold hasS; simp
theorem has_2 (K a b c d : Nat) : hasS 2 (K : Int) a b c d = decide (K < d) := by unfold hasS; simp
theorem has_3 (K a b c d : Nat) : hasS 3 (K : Int) a b c d = decide (K < c) := by unfold hasS; simp
theorem has_4 (K a b c d : Nat) : hasS 4 (K : Int) a b c d = decide (K < b) := by unfold hasS; simp
theorem kw_2 (c : Ct w f p q gs ga n k b3 o3 c2 c3 c4 c5 v0 a2 a4 a5 L s g) (N t b : Int) (hi : f.cd.getD k default = ⟨2, N, t, b⟩) : KW w f p q k s := by
  obtain ⟨K, rfl⟩ := n_nat c hi
  have e : hasS (nuR 2) (K : Int) f.loc.length n p.fns.length p.vars.length = decide (K < f.loc.length) := has_1 _ _ _ _ _
  by_cases hK : K < f.loc.length
  · refine kw_told c 2 K t b hi [] [f.loc[K]] vd_nil (Vd.one (c.okF.loc _ (List.getElem_mem hK))) (by simp) (by decide) (by decide) (by decide) (by decide) (by decide) (fun _ W _ => tell_none q 2 K t b _ (by decide) W) (fun _ W hW => loc_told c 2 K t b rfl hK W hW) (fun e => absurd e (by decide)) ?_
    rw [st_2, e, decide_eq_true hK, tk_nil]
    simp [hK, on, show enR 2 = false from rfl, show nuR 2 = 1 from rfl]
  · refine kw_told c 2 K t b hi [] [] vd_nil vd_nil (by simp) (by decide) (by decide) (by decide) (by decide) (by decide) (fun h => by rw [e] at h; simp at h; omega) (fun h => by rw [e] at h; simp at h; omega) (by decide) ?_
    rw [st_2, e, decide_eq_false hK]
    simp [show f.loc.length ≤ K by omega]
theorem kw_3 (c : Ct w f p q gs ga n k b3 o3 c2 c3 c4 c5 v0 a2 a4 a5 L s g) (N t b : Int) (hi : f.cd.getD k default = ⟨3, N, t, b⟩) : KW w f p q k s := by
  obtain ⟨K, rfl⟩ := n_nat c hi
  have e : hasS (nuR 3) (K : Int) f.loc.length n p.fns.length p.vars.length = decide (K < f.loc.length) := has_1 _ _ _ _ _
  by_cases hK : K < f.loc.length
  · refine kw_told c 3 K t b hi [f.loc[K]] [] (Vd.one (c.okF.loc _ (List.getElem_mem hK))) vd_nil (by simp) (by decide) (by decide) (by decide) (by decide) (by decide) (fun _ W hW => loc_told c 3 K t b rfl hK W hW) (fun _ W _ => tell_none q 3 K t b _ (by decide) W) (by decide) ?_
    rw [st_3, e, decide_eq_true hK]
    have hget : f.loc[(K : Int).toNat]? = some f.loc[K] := by simp [hK]
    rw [hget, Option.bind_some]
    cases tk s.st [f.loc[K]] <;> simp [on, show enR 3 = false from rfl, show nuR 3 = 1 from rfl]
  · refine kw_told c 3 K t b hi [] [] vd_nil vd_nil (by simp) (by decide) (by decide) (by decide) (by decide) (by decide) (fun h => by rw [e] at h; simp at h; omega) (fun h => by rw [e] at h; simp at h; omega) (by decide) ?_
    rw [st_3, e, decide_eq_false hK]
    simp [show f.loc.length ≤ K by omega]
theorem kw_4 (c : Ct w f p q gs ga n k b3 o3 c2 c3 c4 c5 v0 a2 a4 a5 L s g) (N t b : Int) (hi : f.cd.getD k default = ⟨4, N, t, b⟩) : KW w f p q k s := by
  obtain ⟨K, rfl⟩ := n_nat c hi
  have e : hasS (nuR 4) (K : Int) f.loc.length n p.fns.length p.vars.length = decide (K < p.vars.length) := has_2 _ _ _ _ _
  by_cases hK : K < p.vars.length
  · refine kw_told c 4 K t b hi [] [p.vars[K]] vd_nil (Vd.one (c.okF.vars _ (List.getElem_mem hK))) (by simp) (by decide) (by decide) (by decide) (by decide) (by decide) (fun _ W _ => tell_none q 4 K t b _ (by decide) W) (fun _ W hW => var_told c 4 K t b rfl hK W hW) (fun e => absurd e (by decide)) ?_
    rw [st_4, e, decide_eq_true hK, tk_nil]
    simp [hK, on, show enR 4 = false from rfl, show nuR 4 = 2 from rfl]
  · refine kw_told c 4 K t b hi [] [] vd_nil vd_nil (by simp) (by decide) (by decide) (by decide) (by decide) (by decide) (fun h => by rw [e] at h; simp at h; omega) (fun h => by rw [e] at h; simp at h; omega) (by decide) ?_
    rw [st_4, e, decide_eq_false hK]
    simp [show p.vars.length ≤ K by omega]
theorem kw_5 (c : Ct w f p q gs ga n k b3 o3 c2 c3 c4 c5 v0 a2 a4 a5 L s g) (N t b : Int) (hi : f.cd.getD k default = ⟨5, N, t, b⟩) : KW w f p q k s := by
  obtain ⟨K, rfl⟩ := n_nat c hi
  have e : hasS (nuR 5) (K : Int) f.loc.length n p.fns.length p.vars.length = decide (K < p.vars.length) := has_2 _ _ _ _ _
  by_cases hK : K < p.vars.length
  · refine kw_told c 5 K t b hi [p.vars[K]] [] (Vd.one (c.okF.vars _ (List.getElem_mem hK))) vd_nil (by simp) (by decide) (by decide) (by decide) (by decide) (by decide) (fun _ W hW => var_told c 5 K t b rfl hK W hW) (fun _ W _ => tell_none q 5 K t b _ (by decide) W) (by decide) ?_
    rw [st_5, e, decide_eq_true hK]
    have hget : p.vars[(K : Int).toNat]? = some p.vars[K] := by simp [hK]
    rw [hget, Option.bind_some]
    cases tk s.st [p.vars[K]] <;> simp [on, show enR 5 = false from rfl, show nuR 5 = 2 from rfl]
  · refine kw_told c 5 K t b hi [] [] vd_nil vd_nil (by simp) (by decide) (by decide) (by decide) (by decide) (by decide) (fun h => by rw [e] at h; simp at h; omega) (fun h => by rw [e] at h; simp at h; omega) (by decide) ?_
    rw [st_5, e, decide_eq_false hK]
    simp [show p.vars.length ≤ K by omega]
/-- Jumps beyond the end. -/
theorem kw_out (c : Ct w f p q gs ga n k b3 o3 c2 c3 c4 c5 v0 a2 a4 a5 L s g) (op K : Nat) (t b : Int) (hi : f.cd.getD k default = ⟨op, K, t, b⟩) (h15 : (op : Int) ≠ 15) (h16 : (op : Int) ≠ 16) (hnu : nuR op = 4) (hK : n ≤ K)
    (hst : stepS f p ⟨op, K, t, b⟩ s = none ∨ ∃ a b', stepS f p ⟨op, K, t, b⟩ s = some (a, some b')) : KW w f p q k s := by
  have hp := right_parts c.right
  rw [hi] at hp
  have hkn : k < n := by rw [← c.wk.len]; exact (List.getElem?_eq_some_iff.1 c.at').1
  have htr : trR op = 0 := by
    unfold trR
    rw [if_neg h15, if_neg h16]
  have hcell := c.cell
  rw [hi] at hcell
  have ew : wayS f p k s = (51, []) := by
    unfold wayS
    rw [hi]
    rcases hst with e | ⟨a, b', e⟩
    · rw [e]
    · rw [e]
      simp only []
      rw [if_pos]
      simp [c.len]
      omega
  have kk := ways_w q gs ga n k b3 o3 c3 v0 (ci f.sg.res) (.slice a2 f.loc.length c2) (.slice a4 p.fns.length c4) (.slice a5 p.vars.length c5) L s [] [] g op K t b (byR op) (lo op) (Cd.hi op) (nuR op) (taR op) (puR op) (trR op) (nmR op) (enR op) false false w c.wk c.at' (by have := c.n1; omega) c.le c.le2
    (hcell 0 _ rfl) (hcell 1 _ rfl) (hcell 2 _ rfl) (hcell 3 _ rfl) (by simpa using h15) (by simpa using h16) htr (over_len c.ov).2 (fun e => by cases e) (by simp)
    (fun W => by have := row_is op W; rw [hp.1] at this; exact this)
    (fun W hW => by
      have := has_any q v0 f.sg.res a2 (some ⟨b3, o3, none⟩) a4 a5 f.loc.length n p.fns.length p.vars.length c2 c3 c4 c5 op K t b (nuR op) (nuR_vals _) W ((site_of c).keep hW)
      rw [hnu, has_4, decide_eq_false (by omega)] at this
      rw [hnu]
      exact this)
    (fun e => by cases e)
  have er : wyR k n false false (enR op) (nuR op) K [] s = (51, []) := by unfold wyR; rw [if_pos (Or.inl rfl)]
  rw [er] at kk
  unfold KW
  rw [ew]
  exact kk
theorem kw_8 (c : Ct w f p q gs ga n k b3 o3 c2 c3 c4 c5 v0 a2 a4 a5 L s g) (N t b : Int) (hi : f.cd.getD k default = ⟨8, N, t, b⟩) : KW w f p q k s := by
  obtain ⟨K, rfl⟩ := n_nat c hi
  have e : hasS (nuR 8) (K : Int) f.loc.length n p.fns.length p.vars.length = decide (K < n) := has_4 _ _ _ _ _
  by_cases hK : K < n
  · refine kw_told c 8 K t b hi [] [] vd_nil vd_nil (by simp) (by decide) (by decide) (by decide) (by decide) (by decide) (fun _ W _ => tell_none q 8 K t b _ (by decide) W) (fun _ W _ => tell_none q 8 K t b _ (by decide) W) (fun _ => rfl) ?_
    rw [st_8, e, decide_eq_true hK, tk_nil]
    simp [show enR 8 = true from rfl, show nuR 8 = 4 from rfl]
  · exact kw_out c 8 K t b hi (by decide) (by decide) rfl (by omega) (Or.inr ⟨_, _, st_8 _ _ _⟩)
theorem kw_9 (c : Ct w f p q gs ga n k b3 o3 c2 c3 c4 c5 v0 a2 a4 a5 L s g) (N t b : Int) (hi : f.cd.getD k default = ⟨9, N, t, b⟩) : KW w f p q k s := by
  obtain ⟨K, rfl⟩ := n_nat c hi
  have e : hasS (nuR 9) (K : Int) f.loc.length n p.fns.length p.vars.length = decide (K < n) := has_4 _ _ _ _ _
  by_cases hK : K < n
  · refine kw_told c 9 K t b hi [3] [] (Vd.one (by decide)) vd_nil (by simp) (by decide) (by decide) (by decide) (by decide) (by decide) (fun _ W _ => told_bool q 9 K t b (byR 9) (lo 9) (Cd.hi 9) (nuR 9) (taR 9) (puR 9) (trR 9) (nmR 9) (enR 9) W) (fun _ W _ => tell_none q 9 K t b _ (by decide) W) (by decide) ?_
    rw [st_9, e, decide_eq_true hK]
    cases tk s.st [3] <;> simp [show enR 9 = false from rfl, show nuR 9 = 4 from rfl]
  · refine kw_out c 9 K t b hi (by decide) (by decide) rfl (by omega) ?_
    have e9 := st_9 (f := f) (p := p) (s := s) K t b
    cases h : tk s.st [3] with
    | none => rw [h] at e9; exact Or.inl e9
    | some r => rw [h] at e9; exact Or.inr ⟨_, _, e9⟩
theorem kw_10 (c : Ct w f p q gs ga n k b3 o3 c2 c3 c4 c5 v0 a2 a4 a5 L s g) (hps : ∀ g ∈ p.fns, g.ps.length ≤ 17592186044416) (N t b : Int) (hi : f.cd.getD k default = ⟨10, N, t, b⟩) : KW w f p q k s := by
  obtain ⟨K, rfl⟩ := n_nat c hi
  have e : hasS (nuR 10) (K : Int) f.loc.length n p.fns.length p.vars.length = decide (K < p.fns.length) := has_3 _ _ _ _ _
  by_cases hK : K < p.fns.length
  · obtain ⟨bl, off, ea, hcs⟩ := c.fns.2.2.2.resolve_left (by intro e; rw [e] at hK; simp at hK)
    obtain ⟨ap, cp, hI, hc0, hc1⟩ := hcs K _ (List.getElem?_eq_getElem hK)
    have hle := c.fns.1
    have hcl : c4 ≤ 9223372036854775807 := by have := c.fns.2.1; simpa [maxLen] using this
    have hs := (site_of c).c4
    rw [ea] at hs
    have hok := c.okF.fns _ (List.getElem_mem hK)
    refine kw_told c 10 K t b hi p.fns[K].ps (oneS p.fns[K].res) hok.1 (oneS_vd hok.2) (by have := oneS_len p.fns[K].res; omega) (by decide) (by decide) (by decide) (by decide) (by decide)
      (fun _ W hW => told_fnps q K 10 t b (byR 10) (lo 10) (Cd.hi 10) (nuR 10) (taR 10) (puR 10) (trR 10) (nmR 10) (enR 10) bl off p.fns.length c4 ap _ cp p.fns[K].ps rfl hok.1 (hps _ (List.getElem_mem hK)) hK hle hcl W (hW.cellN hs) (hW.cellN hc0) (hI.keep hW))
      (fun _ W hW => told_fnres q K 10 t b (byR 10) (lo 10) (Cd.hi 10) (nuR 10) (taR 10) (puR 10) (trR 10) (nmR 10) (enR 10) bl off p.fns.length c4 p.fns[K].res hok.2 hK hle hcl W (hW.cellN hs) (hW.cellN hc1)) (fun e => absurd e (by decide)) ?_
    rw [st_10, e, decide_eq_true hK]
    have ho : ∀ r : List Int, (if p.fns[K].res = 0 then r else r ++ [p.fns[K].res]) = r ++ oneS p.fns[K].res := fun r => by
      unfold oneS
      split <;> simp
    have hget : p.fns[(K : Int).toNat]? = some p.fns[K] := by simp [hK]
    rw [hget, Option.bind_some]
    cases h : tk s.st p.fns[K].ps <;> simp [h, on, ho, show enR 10 = false from rfl, show nuR 10 = 3 from rfl]
  · refine kw_told c 10 K t b hi [] [] vd_nil vd_nil (by simp) (by decide) (by decide) (by decide) (by decide) (by decide) (fun h => by rw [e] at h; simp at h; omega) (fun h => by rw [e] at h; simp at h; omega) (by decide) ?_
    rw [st_10, e, decide_eq_false hK]
    simp [show p.fns.length ≤ K by omega]
theorem kw_13 (c : Ct w f p q gs ga n k b3 o3 c2 c3 c4 c5 v0 a2 a4 a5 L s g) (N t b : Int) (hi : f.cd.getD k default = ⟨13, N, t, b⟩) : KW w f p q k s := by
  refine kw_told c 13 N t b hi [1] [] (Vd.one (by decide)) vd_nil (by simp) (by decide) (by decide) (by decide) (by decide) (by decide) (fun _ W _ => told_int q 13 N t b (byR 13) (lo 13) (Cd.hi 13) (nuR 13) (taR 13) (puR 13) (trR 13) (nmR 13) (enR 13) W) (fun _ W _ => tell_none q 13 N t b _ (by decide) W) (fun _ => rfl) ?_
  rw [st_13, show hasS (nuR 13) N f.loc.length n p.fns.length p.vars.length = true from rfl, if_pos rfl]
  cases tk s.st [1] <;> simp [show enR 13 = true from rfl, show nuR 13 = 0 from rfl]
theorem kw_14 (c : Ct w f p q gs ga n k b3 o3 c2 c3 c4 c5 v0 a2 a4 a5 L s g) (N t b : Int) (hi : f.cd.getD k default = ⟨14, N, t, b⟩) : KW w f p q k s := by
  refine kw_told c 14 N t b hi [] [1] vd_nil (Vd.one (by decide)) (by simp) (by decide) (by decide) (by decide) (by decide) (by decide) (fun _ W _ => tell_none q 14 N t b _ (by decide) W) (fun _ W _ => told_int q 14 N t b (byR 14) (lo 14) (Cd.hi 14) (nuR 14) (taR 14) (puR 14) (trR 14) (nmR 14) (enR 14) W) (by decide) ?_
  rw [st_14, show hasS (nuR 14) N f.loc.length n p.fns.length p.vars.length = true from rfl, if_pos rfl, tk_nil]
  simp [on, show enR 14 = false from rfl, show nuR 14 = 0 from rfl]
theorem put_nothing (q : Nat) (op N t b : Int) (x : Bs) (hpu : puR op = 0) (W : World) : Calls Tryz.prog 107 #[.pointer (some ⟨q, 0, none⟩), .agg #[ci op, ci N, ci t, .int .u64 b], rwV op, ct x] W fun e w' => e = .returned (.tuple #[ct (encSt []), .bool true]) ∧ Fr (fun _ => False) W w' :=
  put_told q op N t b (byR op) (lo op) (Cd.hi op) (nuR op) (taR op) (puR op) (trR op) (nmR op) (enR op) x [] (by rw [hpu]; rfl) W (fun W' _ => tell_none q op N t b (puR op) (by rw [hpu]; decide) W')
theorem kw_12 (c : Ct w f p q gs ga n k b3 o3 c2 c3 c4 c5 v0 a2 a4 a5 L s g) (op N t b : Int) (hop : op = 12 ∨ op = 17) (hi : f.cd.getD k default = ⟨op, N, t, b⟩) : KW w f p q k s := by
  have hst : stepS f p ⟨op, N, t, b⟩ s = (tp s.st).bind fun x => on s x.1 := by rcases hop with rfl | rfl; exact st_12 N t b; exact st_17 N t b
  have h1 : taR op = 1 ∧ nuR op = 0 ∧ enR op = false ∧ puR op = 0 ∧ op ≠ 15 ∧ op ≠ 16 := by rcases hop with rfl | rfl <;> decide
  obtain ⟨h1, h2, h3, h4, h5, h6⟩ := h1
  cases h : tp s.st with
  | none =>
    rw [h] at hst
    refine kw_none c op N t b hi [] h5 h6 (Or.inl h1) ?_ hst
    rw [tp_none h, h1]; rfl
  | some x =>
    obtain ⟨r, z⟩ := x
    rw [h] at hst
    refine kw_any c op N t b hi r [z] [] true (by simp) (tp_sub h).2.2 h5 h6 (Or.inl h1) ?_ h2 h3 (fun W _ => put_nothing q op N t b _ h4 W) ?_
    · rw [h1, ← (tp_sub h).2.2]; exact top_one h []
    · rw [hst]; simp [on]
theorem un_all (op t : Int) : (unS op t).1 = 0 ∨ valued (unS op t).1 = true := by
  by_cases h : (unS op t).2 = 0
  · exact Or.inr (un_val h)
  · left
    unfold unS at h ⊢
    repeat' split at h
    all_goals first
      | (exfalso; exact h rfl)
      | simp_all
theorem taken_all (x1 x2 x3 t : Int) (h1 : x1 = 0 ∨ valued x1 = true) (h2 : x2 = 0 ∨ valued x2 = true) (h3 : x3 = 0 ∨ valued x3 = true) : (takenS x1 x2 x3 t).1 = 0 ∨ valued (takenS x1 x2 x3 t).1 = true := by
  unfold takenS
  repeat' split
  all_goals first
    | exact Or.inl rfl
    | (simp only []; assumption)
theorem bin_all (op t u : Int) : (binS op t u).1 = 0 ∨ valued (binS op t u).1 = true := by
  unfold binS
  split
  · exact Or.inl rfl
  split
  · exact Or.inl rfl
  exact taken_all _ _ _ t (rowB_val op).1 (rowB_val op).2.1 (rowB_val op).2.2
theorem one_val {u : Int} (h : valued u = true) : oneS u = [u] := by unfold oneS; rw [if_neg (by intro e; rw [e] at h; cases h)]
theorem kw_6 (c : Ct w f p q gs ga n k b3 o3 c2 c3 c4 c5 v0 a2 a4 a5 L s g) (N t b : Int) (hi : f.cd.getD k default = ⟨6, N, t, b⟩) : KW w f p q k s := by
  have hst := st_6 (f := f) (p := p) (s := s) N t b
  cases h : tp s.st with
  | none =>
    rw [h] at hst
    refine kw_none c 6 N t b hi [] (by decide) (by decide) (Or.inl rfl) ?_ hst
    rw [tp_none h]; rfl
  | some x =>
    obtain ⟨r, z⟩ := x
    rw [h] at hst
    have hz := c.ok.st z (tp_sub h).2.1
    refine kw_any c 6 N t b hi r [z] (oneS (unS N z).1) ((unS N z).2 == 0) (by have := oneS_len (unS N z).1; omega) (tp_sub h).2.2 (by decide) (by decide) (Or.inl rfl) ?_ rfl rfl (fun W _ => put_making q 6 N t b (byR 6) (lo 6) (Cd.hi 6) (nuR 6) (taR 6) (trR 6) (nmR 6) (enR 6) _ _ _ (un_all N z) W (fun W' => making_1 N z hz W')) ?_
    · rw [← (tp_sub h).2.2]; exact top_one h []
    · rw [hst]
      by_cases he : (unS N z).2 = 0
      · simp [he, on, one_val (un_val he)]
      · simp [he]
theorem kw_7 (c : Ct w f p q gs ga n k b3 o3 c2 c3 c4 c5 v0 a2 a4 a5 L s g) (N t b : Int) (hi : f.cd.getD k default = ⟨7, N, t, b⟩) : KW w f p q k s := by
  have hst := st_7 (f := f) (p := p) (s := s) N t b
  cases h : tp s.st with
  | none =>
    rw [h] at hst
    refine kw_none c 7 N t b hi [] (by decide) (by decide) (Or.inr rfl) ?_ hst
    rw [tp_none h]; rfl
  | some x =>
    obtain ⟨r, z⟩ := x
    rw [h] at hst
    have e1 := (tp_sub h).2.2
    simp only [Option.bind_some] at hst
    cases h2 : tp r with
    | none =>
      rw [h2] at hst
      have er := tp_none h2
      subst er
      refine kw_none c 7 N t b hi [] (by decide) (by decide) (Or.inr rfl) ?_ hst
      rw [e1]; rfl
    | some y =>
      obtain ⟨r', u⟩ := y
      rw [h2] at hst
      have e2 := (tp_sub h2).2.2
      have hz := c.ok.st z (tp_sub h).2.1
      have hu := c.ok.st u ((tp_sub h).1 u (tp_sub h2).2.1)
      have e3 : s.st = r' ++ [u, z] := by rw [e1, e2]; simp
      refine kw_any c 7 N t b hi r' [u, z] (oneS (binS N u z).1) ((binS N u z).2 == 0) (by have := oneS_len (binS N u z).1; omega) e3 (by decide) (by decide) (Or.inr rfl) ?_ rfl rfl (fun W _ => put_making q 7 N t b (byR 7) (lo 7) (Cd.hi 7) (nuR 7) (taR 7) (trR 7) (nmR 7) (enR 7) _ _ _ (bin_all N u z) W (fun W' => making_2 N u z hu hz W')) ?_
      · rw [← e3]; exact top_two h h2 []
      · rw [hst]
        by_cases he : (binS N u z).2 = 0
        · simp [he, on, one_val (bin_val he)]
        · simp [he]
end Go.Proofs.YtoiglopilpoafaaGreatDoor.Cd

namespace Go.Proofs.YtoiglopilpoafaaGreatDoor.Cd
open Go.RowKit Ty
set_option linter.unusedSimpArgs false
set_option linter.unusedVariables false

theorem three_put {w : World} {g : Nat} {x0 x1 x2 : Value} {t : TypeId} (h : w.heap[g]? = some (.cells #[x0, x1, x2] t (0, 0))) (v0 v1 v2 : Value) :
    (((w.setCell ⟨g, 0, none⟩ v0).setCell ⟨g, 1, none⟩ v1).setCell ⟨g, 2, none⟩ v2).heap[g]? = some (.cells #[v0, v1, v2] t (0, 0)) := by
  have h0 : (w.setCell ⟨g, 0, none⟩ v0).heap[g]? = some (.cells #[v0, x1, x2] t (0, 0)) := heap_setCell_same _ g 0 _ t v0 h
  have h1 : ((w.setCell ⟨g, 0, none⟩ v0).setCell ⟨g, 1, none⟩ v1).heap[g]? = some (.cells #[v0, v1, x2] t (0, 0)) := heap_setCell_same _ g 1 _ t v1 h0
  exact heap_setCell_same _ g 2 _ t v2 h1
theorem three_fr (w : World) (g : Nat) (v0 v1 v2 : Value) : Fr (fun k => k = g) w (((w.setCell ⟨g, 0, none⟩ v0).setCell ⟨g, 1, none⟩ v1).setCell ⟨g, 2, none⟩ v2) :=
  ((Fr.setCell w ⟨g, 0, none⟩ v0).same (Fr.setCell _ ⟨g, 1, none⟩ v1)).same (Fr.setCell _ ⟨g, 2, none⟩ v2)
theorem last_10 (a b : Bs) (ha : a = [] ∨ ∃ r, a = r ++ [10]) (hb : ∀ c ∈ b, c ≠ 10) : Lib.lastIndexByte ⟨(a ++ b).toArray⟩ 10 + 1 = (a.length : Int) := by
  have hs : (⟨(a ++ b).toArray⟩ : ByteArray).size = a.length + b.length := by simp [ByteArray.size]
  have get : ∀ j : Nat, j < a.length + b.length → ∀ c, (a ++ b)[j]? = some c → (⟨(a ++ b).toArray⟩ : ByteArray).data[j]! = c := by
    intro j hj c hc
    rw [getElem!_pos _ j (by simpa using hj)]
    have := (List.getElem?_eq_some_iff.1 hc).2
    simpa using this
  have hbn : ∀ j : Nat, a.length ≤ j → j < a.length + b.length → (((⟨(a ++ b).toArray⟩ : ByteArray).data[j]!).toNat : Int) ≠ 10 := by
    intro j h1 h2 e
    obtain ⟨c, hc⟩ : ∃ c, b[j - a.length]? = some c := ⟨_, List.getElem?_eq_getElem (by omega)⟩
    have h3 : (a ++ b)[j]? = some c := by rw [List.getElem?_append_right h1]; exact hc
    rw [get j h2 c h3] at e
    refine hb c (List.mem_of_getElem? hc) ?_
    have : c.toNat = (10 : UInt8).toNat := by have : c.toNat = 10 := by omega
                                              rw [this]; rfl
    exact UInt8.toNat_inj.1 this
  unfold Lib.lastIndexByte
  rw [hs]
  rcases ha with rfl | ⟨r, rfl⟩
  · rcases Lib.lastIdx_spec ⟨([] ++ b).toArray⟩ 10 (([] : Bs).length + b.length) with ⟨e, _⟩ | ⟨i, hi, _, hc, _⟩
    · rw [e]; rfl
    · exact absurd hc (hbn i (by simp) hi)
  · have h10 : (((⟨((r ++ [10]) ++ b).toArray⟩ : ByteArray).data[r.length]!).toNat : Int) = 10 := by
      rw [get r.length (by simp; omega) 10 (by simp)]
      rfl
    rcases Lib.lastIdx_spec ⟨((r ++ [10]) ++ b).toArray⟩ 10 ((r ++ [10]).length + b.length) with ⟨_, h⟩ | ⟨i, hi, e, hc, h⟩
    · exact absurd h10 (h r.length (by simp; omega))
    · have h1 : i < (r ++ [10]).length := by
        by_cases h2 : i < (r ++ [10]).length
        · exact h2
        · exact absurd hc (hbn i (by omega) hi)
      have h3 : i = r.length := by
        by_cases h4 : i = r.length
        · exact h4
        · exact absurd h10 (h r.length (by simp at h1; omega) (by simp; omega))
      rw [e, h3]
      simp
theorem trim_10 (r : Bs) : Lib.trimSuffix (r ++ [10]) [10] = r := by
  have h : Lib.hasSuffix (r ++ [10]) [10] = true := by
    unfold Lib.hasSuffix
    rw [List.isSuffixOf_iff_suffix]
    exact ⟨r, rfl⟩
  unfold Lib.trimSuffix
  rw [h, if_pos rfl]
  simp
theorem encTr_len : ∀ (l : List (Int × List Int)), (∀ x ∈ l, 0 ≤ x.1 ∧ x.1 ≤ 65535 ∧ x.2.length ≤ 512) → (encTr l).length ≤ l.length * 700
  | [], _ => by simp [encTr]
  | x :: l, h => by
    have h1 := encTr_len l (fun y hy => h y (List.mem_cons_of_mem _ hy))
    have h2 := h x (List.mem_cons_self)
    have h3 := (D.itoa_len x.1 (by unfold D.I64; omega)).1
    have h4 : (encSt x.2).length = x.2.length := by simp [encSt]
    have e : encTr (x :: l) = encOne x ++ encTr l := rfl
    rw [e, List.length_append]
    unfold encOne encLn
    simp only [List.length_append, List.length_cons, List.length_nil]
    omega
set_option maxRecDepth 20000 in
set_option maxHeartbeats 2000000 in
theorem opening_any (x y : Bs) (m : Nat) (N : Int) (hN : D.I64 N) (hx : x.length ≤ 1000) (hy : y.length ≤ 1000000) (hm : m ≤ 1000) (w : World) (ht : F.Tab w) :
    Calls Tryz.prog 96 #[.agg #[ct x, ct y, ci (m : Int)], ci N] w fun e w' => e = .returned (.agg #[ct x, ct (y ++ (Lib.itoa N ++ x ++ [10])), ci ((m : Int) + 1)]) ∧ Fr (fun _ => False) w w' := by
  have hl := (D.itoa_len N hN).1
  obtain ⟨V, hV⟩ : ∃ V, V = (w.alloc (.cells #[ct x, ct y, ci (m : Int)] 148 (0, 0))).alloc (.cells #[ct [], ct [], ci 0] 148 (0, 0)) := ⟨_, rfl⟩
  have fV : Fr (fun _ => False) w V := by rw [hV]; exact (Fr.alloc _ _ _).same (Fr.alloc _ _ _)
  have hb0 : V.heap[w.heap.size]? = some (.cells #[ct x, ct y, ci (m : Int)] 148 (0, 0)) := by rw [hV]; exact heap_alloc2_old _ _ _
  have hb1 : V.heap[w.heap.size + 1]? = some (.cells #[ct [], ct [], ci 0] 148 (0, 0)) := by rw [hV]; exact heap_alloc2_new _ _ _
  have kd : ∀ W, Fr (fun _ => False) V W → Calls Tryz.prog 108 #[ci N] W fun r w' => r = .returned (.string ⟨(Lib.itoa N).toArray⟩) ∧ Fr (fun _ => False) W w' := fun W f => (D.dec_any N hN W (tab_fr ht (fV.same f))).mono (fun e w' h => ⟨h.1, kb_frD h.2⟩)
  generalize Lib.itoa N = D1 at kd hl ⊢
  have hc1 := fun W : World => run_string_add_lists (P := Tryz.prog) W D1 x (by omega) (by omega)
  have hc2 := fun W : World => run_string_add_lists (P := Tryz.prog) W (D1 ++ x) [10] (by simp; omega) (by simp)
  have hc3 := fun W : World => run_string_add_lists (P := Tryz.prog) W y (D1 ++ x ++ [10]) (by omega) (by simp; omega)
  obtain ⟨N1, hN1⟩ : ∃ z, z = D1 ++ x := ⟨_, rfl⟩
  rw [← hN1] at hc1 hc2 hc3 ⊢
  obtain ⟨N2, hN2⟩ : ∃ z, z = N1 ++ [10] := ⟨_, rfl⟩
  rw [← hN2] at hc2 hc3 ⊢
  obtain ⟨N3, hN3⟩ : ∃ z, z = y ++ N2 := ⟨_, rfl⟩
  rw [← hN3] at hc3 ⊢
  have hw2 : IntKind.i64.wrap ((m : Int) + 1) = (m : Int) + 1 := by rw [IntKind.wrap_i64]; omega
  have hfV : Hidden (Fr (fun _ => False) w V) := fV
  have hb0H : Hidden (V.heap[w.heap.size]? = some (.cells #[ct x, ct y, ci (m : Int)] 148 (0, 0))) := hb0
  have hb1H : Hidden (V.heap[w.heap.size + 1]? = some (.cells #[ct [], ct [], ci 0] 148 (0, 0))) := hb1
  have hVH : Hidden (V = _) := hV
  clear hN1 hN2 hN3 fV hV hl ht hN
  go_enter Tryz.func96, Tryz.ntmps96
  go_upto_region 1 with fail
  rw [← (show V = _ from hVH)]
  clear hVH
  obtain ⟨c0, c1, c2⟩ := box3 hb0
  have z1 := frozen_of_row hb0 1
  generalize hG : w.heap.size = G at *
  have hGH : Hidden (w.heap.size = G) := hG
  clear hG
  go_region_with (first
    | (go_at_call 108; refine (kd _ (by first | exact Fr.refl _ _ | exact Fr.drew _ _)).mono ?_; rintro e w1 ⟨rfl, f1⟩; have d0 := f1.cellN c0; have d1 := f1.cellN c1; have z2 := frozen_of_row (f1.heap (show V.heap[G]? = _ from hb0H) (fun f => f)) 1))
  all_goals
    have hU0 : (w1.setCell ⟨G, 1, none⟩ (ct N3)).heap[G]? = some (.cells #[ct x, ct N3, ci (m : Int)] 148 (0, 0)) := heap_setCell_same w1 G 1 _ _ _ (f1.heap (show V.heap[G]? = _ from hb0H) (fun f => f))
    have hU1 : (w1.setCell ⟨G, 1, none⟩ (ct N3)).heap[G + 1]? = some (.cells #[ct [], ct [], ci 0] 148 (0, 0)) := (Fr.setCell w1 ⟨G, 1, none⟩ _).heap (f1.heap (show V.heap[G + 1]? = _ from hb1H) (fun f => f)) (by show ¬ G + 1 = G; omega)
    have hUf : Hidden (Fr (fun k => k = G) V (w1.setCell ⟨G, 1, none⟩ (ct N3))) := ((Fr.drew (fun k => k = G) V).same (f1.mono (fun _ _ f => f.elim))).same (Fr.setCell w1 ⟨G, 1, none⟩ _)
    generalize w1.setCell ⟨G, 1, none⟩ (ct N3) = U at hU0 hU1 hUf ⊢
    obtain ⟨e0, e1, e2⟩ := box3 hU0
    obtain ⟨g0, g1, g2⟩ := box3 hU1
    have y2 := frozen_of_row hU0 2
    have x0 := frozen_of_row hU1 0
    have x1 := frozen_of_row hU1 1
    have x2 := frozen_of_row hU1 2
    have hU1H : Hidden (U.heap[G + 1]? = some (.cells #[ct [], ct [], ci 0] 148 (0, 0))) := hU1
    clear hb0 hb1 hU0 hU1 c0 c1 c2 z1 d0 d1 z2 hc1 hc2 hc3
    go_wp2_with fail
    refine post_one rfl rfl _ #[ct x, ct N3, ci ((m : Int) + 1)] 148 _ rfl ?_ Tryz.underlying148 rfl (by kernel_rfl) ⟨rfl, ?_⟩
    · exact three_put ((Fr.setCell U ⟨G, 2, none⟩ _).heap (show U.heap[G + 1]? = _ from hU1H) (by show ¬ G + 1 = G; omega)) _ _ _
    · have hle : w.heap.size = G := hGH
      exact ((Fr.over (show Fr (fun _ => False) w V from hfV) (show Fr (fun k => k = G) V U from hUf) (fun k e => by omega)).over (Fr.setCell U ⟨G, 2, none⟩ _) (fun k e => by have e : k = G := e; omega)).over (three_fr _ (G + 1) _ _ _) (fun k e => by omega)
set_option maxRecDepth 20000 in
set_option maxHeartbeats 2000000 in
theorem closing_any (x y a b : Bs) (m : Nat) (hy : y = a ++ b ++ [10]) (ha : a = [] ∨ ∃ r, a = r ++ [10]) (hb : ∀ c ∈ b, c ≠ 10) (hx : x.length ≤ 1000) (hyl : y.length ≤ 1000000) (hm : m ≤ 1000) (w : World) :
    Calls Tryz.prog 98 #[.agg #[ct x, ct y, ci (m : Int)]] w fun e w' => e = .returned (.agg #[ct x, ct a, ci ((m : Int) - 1)]) ∧ Fr (fun _ => False) w w' := by
  have kt := fun W => Tryz.strings_TrimSuffix ⟨y.toArray⟩ ⟨#[10]⟩ W (by simp [ByteArray.size]; omega)
  have kl := fun W => Tryz.strings_LastIndex_one ⟨(a ++ b).toArray⟩ ⟨#[10]⟩ rfl (by have : (a ++ b).length ≤ y.length := by rw [hy]; simp
                                                                                    simp [ByteArray.size] at this ⊢; omega) W
  have et : Lib.trimSuffix (⟨y.toArray⟩ : ByteArray).data.toList (⟨#[10]⟩ : ByteArray).data.toList = a ++ b := by rw [hy]; exact trim_10 (a ++ b)
  have el : Lib.lastIndexByte ⟨(a ++ b).toArray⟩ (((⟨#[10]⟩ : ByteArray)[0]'(by decide)).toNat : Int) = (a.length : Int) - 1 := by
    have := last_10 a b ha hb
    have e : (((⟨#[10]⟩ : ByteArray)[0]'(by decide)).toNat : Int) = 10 := rfl
    rw [e]
    omega
  rw [et] at kt
  rw [el] at kl
  have hal : a.length ≤ (a ++ b).length := by simp
  have habl : (a ++ b).length ≤ 1000000 := by have : (a ++ b).length ≤ y.length := by rw [hy]; simp
                                              omega
  have hsl := fun W : World => slice_head (a ++ b) a.length hal (by omega) W
  rw [List.take_left] at hsl
  obtain ⟨A, hA⟩ : ∃ A, A = a.length := ⟨_, rfl⟩
  rw [← hA] at hsl kl
  have hw1 : wrap64 (A : Int) = (A : Int) := by unfold wrap64; omega
  have hw2 : IntKind.i64.wrap ((m : Int) - 1) = (m : Int) - 1 := by rw [IntKind.wrap_i64]; omega
  generalize a ++ b = ab at *
  clear hA hal habl et el hy ha hb
  go_enter Tryz.func98, Tryz.ntmps98
  go_wp2_with (first
    | (go_at_call 109; refine (kt _).mono ?_; rintro e w1 ⟨rfl, rfl⟩)
    | (go_at_call 110; refine (kl _).mono ?_; rintro e w2 ⟨rfl, rfl⟩))
  refine post_one rfl rfl _ #[ct x, ct a, ci ((m : Int) - 1)] 148 _ rfl ?_ Tryz.underlying148 rfl (by kernel_rfl) ⟨rfl, (Fr.alloc _ _ _).same (Fr.alloc _ _ _)⟩
  exact alloc_at _ _ _ (by simp)
end Go.Proofs.YtoiglopilpoafaaGreatDoor.Cd
