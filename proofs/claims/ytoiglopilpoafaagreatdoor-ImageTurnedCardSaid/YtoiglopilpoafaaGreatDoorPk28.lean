/- Texts of ours, in one. -/
import Derived.Test.YtoiglopilpoafaaGreatDoorPk27
import Derived.Test.YtoiglopilpoafaaGreatDoorPk13
namespace Go.Proofs.YtoiglopilpoafaaGreatDoor.Cd
open Go.RowKit Ty
set_option linter.unusedSimpArgs false
set_option linter.unusedVariables false

/-- The first instruction that is not right. -/
def badI (f : Fu) : Int := idxP (fun i => !rightS i) f.cd 0
def runS (f : Fu) (p : Fm) : Rs := (goS f p (f.cd.length + 1) (startS f.cd.length)).getD (.er 0 0)
/-- The place and the error. -/
def verS (f : Fu) (p : Fm) : Int × Int := if outS f p ≠ 0 then (0, outS f p) else if 0 ≤ badI f then (badI f, 51) else (placeS (runS f p), errS (runS f p))
def okR : Rs → Option Cs
  | .ok L => some L
  | .er _ _ => none
/-- The shapes, where the function is right. -/
def finS (f : Fu) (p : Fm) : Option Cs := if outS f p ≠ 0 then none else if 0 ≤ badI f then none else okR (runS f p)
theorem run_some (f : Fu) (p : Fm) : goS f p (f.cd.length + 1) (startS f.cd.length) = some (runS f p) := by
  obtain ⟨R, hR⟩ := goS_all f p (f.cd.length + 1) (startS f.cd.length) (by have := notgone_le (startS f.cd.length); simp [startS] at this ⊢; omega)
  unfold runS
  rw [hR]
  rfl
theorem out_ok {f : Fu} {p : Fm} (h : outS f p = 0) : f.sg.ps.length ≤ 8 ∧ f.loc.length ≤ 64 ∧ f.cd.length ≤ 4096 ∧ f.cd ≠ [] ∧ OkF f p := by
  unfold outS at h
  split at h
  · cases h
  rename_i h1
  split at h
  · cases h
  rename_i h2
  simp only [not_or, Bool.not_eq_false, Nat.not_lt, ne_eq, Decidable.not_not] at h1 h2
  obtain ⟨a1, a2, a3, a4, a5, a6, a7⟩ := h2
  have sg_ok : ∀ g : Sg, sgS g = true → Vd g.ps ∧ (g.res = 0 ∨ valued g.res = true) := by
    intro g hg
    unfold sgS at hg
    simp only [Bool.and_eq_true, Bool.or_eq_true, beq_iff_eq] at hg
    exact ⟨Vd.all hg.1, hg.2⟩
  exact ⟨h1.1, h1.2.1, h1.2.2, a1, ⟨Vd.all a4, Vd.all a6, (sg_ok _ a5).2, fun g hg => sg_ok g (List.all_eq_true.1 a7 g hg)⟩⟩
theorem bad_no {f : Fu} (h : ¬ 0 ≤ badI f) : ∀ i ∈ f.cd, rightS i = true := by
  intro i hi
  rcases idxP_spec (fun i => !rightS i) f.cd 0 with ⟨h1, _, _⟩ | ⟨k, x, h1, h2, h3, _⟩
  · have := h1 i hi
    simpa using this
  · exfalso
    apply h
    unfold badI
    rw [h3]
    omega
set_option maxRecDepth 20000 in
set_option maxHeartbeats 2000000 in
theorem gone_any (f : Fu) (p : Fm) (a0 a2 a3 a4 a5 : Option Addr) (c0 c2 c3 c4 c5 : Nat) (w : World) (h : Fi w f p a0 a2 a3 a4 a5 c0 c2 c3 c4 c5) (ho : outS f p = 0) (hb : ¬ 0 ≤ badI f) :
    Calls Tryz.prog 55 #[.agg #[.slice a0 f.sg.ps.length c0, ci f.sg.res, .slice a2 f.loc.length c2, .slice a3 f.cd.length c3], .agg #[.slice a4 p.fns.length c4, .slice a5 p.vars.length c5]] w fun e w' => ∃ pv, e = .returned (.tuple #[pv, ci (placeS (runS f p)), ci (errS (runS f p))]) ∧ Fr (fun _ => False) w w' ∧ ∀ L', runS f p = .ok L' → ∃ q gs ga, pv = .pointer (some ⟨q, 0, none⟩) ∧ Wk w' q gs ga f.cd.length (.slice a0 f.sg.ps.length c0) (ci f.sg.res) (.slice a2 f.loc.length c2) (.slice a3 f.cd.length c3) (.slice a4 p.fns.length c4) (.slice a5 p.vars.length c5) L' := by
  obtain ⟨h1, h2, h3, h4, hF⟩ := out_ok ho
  have hright := bad_no hb
  have hn0 : 0 < f.cd.length := by cases hc : f.cd with | nil => exact absurd hc h4 | cons x r => simp
  obtain ⟨b3, o3, rfl, hcells⟩ := h.cd.2.2.2.resolve_left h4
  have hc3 := h.cd.1
  have hc3m : c3 ≤ 9223372036854775807 := by have := h.cd.2.1; simpa [maxLen] using this
  have hget : ∀ k : Nat, k < f.cd.length → f.cd[k]? = some (f.cd.getD k default) := fun k hk => by
    rw [List.getD_eq_getElem?_getD, List.getElem?_eq_getElem hk]
    rfl
  have hmem : ∀ k : Nat, k < f.cd.length → f.cd.getD k default ∈ f.cd := fun k hk => List.mem_of_getElem? (hget k hk)
  have hI : ∀ k : Nat, k < f.cd.length → OkI (f.cd.getD k default) := fun k hk => right_okI (hright _ (hmem k hk))
  refine gone_w f p f.cd.length c3 (some ⟨b3, o3, none⟩) (.slice a0 f.sg.ps.length c0) (ci f.sg.res) (.slice a2 f.loc.length c2) (.slice a4 p.fns.length c4) (.slice a5 p.vars.length c5) (runS f p) w h3 hn0 hc3 hc3m rfl (run_some f p) ?_ ?_ ?_
  · intro L L' k s hinv hk hrd
    have hkn : k < f.cd.length := by rw [← hinv.len]; exact (List.getElem?_eq_some_iff.1 hk).1
    exact ⟨by rw [(roundS_len hk hrd).1]; exact hinv.len, goS_ok hF hI hinv.len hinv.ok hk hrd, round_over hinv.ov hk hrd, round_tz (hright _ (hmem k hkn)) (hinv.ov _ _ _ hk) hinv.tz hk hrd⟩
  · intro q gs ga W2 L k s hW2 hwk hinv hk
    have hkn : k < f.cd.length := by rw [← hinv.len]; exact (List.getElem?_eq_some_iff.1 hk).1
    exact kw_all (L := L) (g := false) ⟨hwk, hk, h3, hc3, hc3m, rfl, fun j u hu => hW2.cellN (hcells k _ (hget k hkn) j u hu), hright _ (hmem k hkn), hinv.ov _ _ _ hk, hinv.ok _ _ _ hk, hF, h.loc.keep hW2, h.vars.keep hW2, h.fns.keep hW2, tab_fr h.tab hW2⟩ (hinv.tz _ _ _ hk) h.fps
  · intro k s hkn hos x hx
    unfold wayS at hx
    split at hx
    · simp at hx
    rename_i a b hst
    split at hx
    · simp at hx
    rename_i c1
    split at hx
    · simp at hx
    simp only [Bool.or_eq_true, not_or, Bool.not_eq_true] at c1
    have ho := step_ok hF (hI k hkn) hos hst
    simp only [List.mem_append] at hx
    rcases hx with hx | hx
    · cases a with
      | none => simp at hx
      | some y =>
        simp at hx
        subst hx
        have := c1.1
        simp at this
        exact ⟨this, ho.1 _ rfl⟩
    · cases b with
      | none => simp at hx
      | some y =>
        simp at hx
        subst hx
        have := c1.2
        simp at this
        have h0 := (hI k hkn).n
        simp only [List.getD_eq_getElem?_getD] at h0 ⊢
        exact ⟨by omega, ho.2 _ rfl⟩
set_option maxRecDepth 20000 in
set_option maxHeartbeats 2000000 in
theorem verified_any (f : Fu) (p : Fm) (a0 a2 a3 a4 a5 : Option Addr) (c0 c2 c3 c4 c5 np nl n nf nv : Nat) (hnp : f.sg.ps.length = np) (hnl : f.loc.length = nl) (hn : f.cd.length = n) (hnf : p.fns.length = nf) (hnv : p.vars.length = nv) (w : World) (h : Fi w f p a0 a2 a3 a4 a5 c0 c2 c3 c4 c5) :
    Calls Tryz.prog 34 #[.agg #[.slice a0 np c0, ci f.sg.res, .slice a2 nl c2, .slice a3 n c3], .agg #[.slice a4 nf c4, .slice a5 nv c5]] w fun e w' => ∃ pv, e = .returned (.tuple #[pv, ci (verS f p).1, ci (verS f p).2]) ∧ Fr (fun _ => False) w w' ∧ ∀ L', finS f p = some L' → ∃ q gs ga, pv = .pointer (some ⟨q, 0, none⟩) ∧ Wk w' q gs ga n (.slice a0 np c0) (ci f.sg.res) (.slice a2 nl c2) (.slice a3 n c3) (.slice a4 nf c4) (.slice a5 nv c5) L' := by
  have kon := fun W (hW : Fr (fun _ => False) w W) => outline_any f p a0 a2 a3 a4 a5 c0 c2 c3 c4 c5 np nl n nf nv hnp hnl hn hnf hnv W (h.keep hW)
  have kb : ∀ W, Fr (fun _ => False) w W → Calls Tryz.prog 54 #[.slice a3 n c3, .func (.func 52) #[] #[]] W fun e w' => e = .returned (ci (badI f)) ∧ Fr (fun _ => False) W w' := fun W hW => firstbad_any a3 n c3 f.cd W hn.symm (h.cd.keep hW) (fun i hi => (h.okI i hi).b)
  have kg : outS f p = 0 → ¬ 0 ≤ badI f → ∀ W, Fr (fun _ => False) w W → _ := fun h1 h2 W hW => gone_any f p a0 a2 a3 a4 a5 c0 c2 c3 c4 c5 W (h.keep hW) h1 h2
  rw [hnp, hnl, hn, hnf, hnv] at kg
  have hv : Hidden (verS f p = if outS f p ≠ 0 then (0, outS f p) else if 0 ≤ badI f then (badI f, 51) else (placeS (runS f p), errS (runS f p))) := rfl
  have hf : Hidden (finS f p = if outS f p ≠ 0 then none else if 0 ≤ badI f then none else okR (runS f p)) := rfl
  clear h hnp hnl hn hnf hnv
  generalize f.sg.res = rs at *
  generalize verS f p = VR at hv ⊢
  generalize finS f p = FR at hf ⊢
  generalize outS f p = O at *
  generalize badI f = B at *
  generalize runS f p = R at *
  obtain ⟨V, hV⟩ : ∃ V, V = (w.alloc (.cells #[.slice a0 np c0, ci rs, .slice a2 nl c2, .slice a3 n c3] 46 (0, 0))).alloc (.cells #[.slice a4 nf c4, .slice a5 nv c5] 64 (0, 0)) := ⟨_, rfl⟩
  have fV : Fr (fun _ => False) w V := by rw [hV]; exact (Fr.alloc _ _ _).same (Fr.alloc _ _ _)
  have b4 := box4 (show V.heap[w.heap.size]? = some (.cells #[.slice a0 np c0, ci rs, .slice a2 nl c2, .slice a3 n c3] 46 (0, 0)) by rw [hV]; exact heap_alloc2_old _ _ _)
  have hb2 : V.heap[w.heap.size + 1]? = some (.cells #[.slice a4 nf c4, .slice a5 nv c5] 64 (0, 0)) := by rw [hV]; exact heap_alloc2_new _ _ _
  have d0 : V.cell? ⟨w.heap.size + 1, 0, none⟩ = some (.slice a4 nf c4) := cell_of_row _ _ 0 _ _ _ hb2
  have d1 : V.cell? ⟨w.heap.size + 1, 1, none⟩ = some (.slice a5 nv c5) := cell_of_row _ _ 1 _ _ _ hb2
  have b4H : Hidden _ := b4
  have d0H : Hidden (V.cell? ⟨w.heap.size + 1, 0, none⟩ = some (.slice a4 nf c4)) := d0
  have d1H : Hidden (V.cell? ⟨w.heap.size + 1, 1, none⟩ = some (.slice a5 nv c5)) := d1
  have fVH : Hidden (Fr (fun _ => False) w V) := fV
  have hVH : Hidden (V = _) := hV
  clear hV fV b4 hb2 d0 d1
  by_cases hO : O = 0
  · subst hO
    by_cases hB : 0 ≤ B
    · have hBb : decide (0 ≤ B) = true := by simpa using hB
      have hv2 : Hidden (VR = (B, 51)) := by have := (show VR = _ from hv); rw [if_neg (by simp), if_pos hB] at this; exact this
      have hf2 : Hidden (FR = none) := by have := (show FR = _ from hf); rw [if_neg (by simp), if_pos hB] at this; exact this
      clear hv hf kg hB
      go_enter Tryz.func34, Tryz.ntmps34
      go_upto_region 1 with fail
      rw [← (show V = _ from hVH)]
      clear hVH
      obtain ⟨e0, e1, e2, e3⟩ := b4H
      have d0 : V.cell? ⟨w.heap.size + 1, 0, none⟩ = some (.slice a4 nf c4) := d0H
      have d1 : V.cell? ⟨w.heap.size + 1, 1, none⟩ = some (.slice a5 nv c5) := d1H
      go_wp2_with (first
        | (go_at_call 51; refine (kon _ fVH).mono ?_; rintro e w1 ⟨rfl, f1⟩
           replace e3 := f1.cellN e3)
        | (go_at_call 54; refine (kb _ ((show Fr (fun _ => False) w V from fVH).same f1)).mono ?_; rintro e w2 ⟨rfl, f2⟩))
      go_ret3
      exact ⟨_, by rw [show VR = _ from hv2]; rfl, ((show Fr (fun _ => False) w V from fVH).same f1).same f2, fun L' e => by rw [show FR = none from hf2] at e; cases e⟩
    · have hBb : decide (0 ≤ B) = false := by simpa using hB
      have kg2 := kg rfl hB
      have hv2 : Hidden (VR = (placeS R, errS R)) := by have := (show VR = _ from hv); rw [if_neg (by simp), if_neg hB] at this; exact this
      have hf2 : Hidden (FR = okR R) := by have := (show FR = _ from hf); rw [if_neg (by simp), if_neg hB] at this; exact this
      clear hv hf kg hB
      generalize hpl : placeS R = pl at kg2 hv2
      generalize her : errS R = er at kg2 hv2
      go_enter Tryz.func34, Tryz.ntmps34
      go_upto_region 1 with fail
      rw [← (show V = _ from hVH)]
      clear hVH hpl her
      obtain ⟨e0, e1, e2, e3⟩ := b4H
      have d0 : V.cell? ⟨w.heap.size + 1, 0, none⟩ = some (.slice a4 nf c4) := d0H
      have d1 : V.cell? ⟨w.heap.size + 1, 1, none⟩ = some (.slice a5 nv c5) := d1H
      go_wp2_with (first
        | (go_at_call 51; refine (kon _ fVH).mono ?_; rintro e w1 ⟨rfl, f1⟩
           replace e0 := f1.cellN e0
           replace e1 := f1.cellN e1
           replace e2 := f1.cellN e2
           replace e3 := f1.cellN e3
           replace d0 := f1.cellN d0
           replace d1 := f1.cellN d1)
        | (go_at_call 54; refine (kb _ ((show Fr (fun _ => False) w V from fVH).same f1)).mono ?_; rintro e w2 ⟨rfl, f2⟩
           replace e0 := f2.cellN e0
           replace e1 := f2.cellN e1
           replace e2 := f2.cellN e2
           replace e3 := f2.cellN e3
           replace d0 := f2.cellN d0
           replace d1 := f2.cellN d1)
        | (go_at_call 55; refine (kg2 _ (((show Fr (fun _ => False) w V from fVH).same f1).same f2)).mono ?_; rintro e w3 ⟨pv, rfl, f3, hL⟩
           have hLH : Hidden _ := hL
           clear hL))
      go_ret3
      refine ⟨pv, by rw [show VR = _ from hv2]; rfl, (((show Fr (fun _ => False) w V from fVH).same f1).same f2).same f3, fun L' e => ?_⟩
      rw [show FR = _ from hf2] at e
      cases R with
      | ok L => cases e; exact hLH _ rfl
      | er _ _ => cases e
  · have hOb : (O == 0) = false := by simpa using hO
    have hOc : (O != 0) = true := by simpa using hO
    have hv2 : Hidden (VR = (0, O)) := by have := (show VR = _ from hv); rw [if_pos hO] at this; exact this
    have hf2 : Hidden (FR = none) := by have := (show FR = _ from hf); rw [if_pos hO] at this; exact this
    clear hv hf kg hO
    go_enter Tryz.func34, Tryz.ntmps34
    go_upto_region 1 with fail
    rw [← (show V = _ from hVH)]
    clear hVH
    obtain ⟨e0, e1, e2, e3⟩ := b4H
    have d0 : V.cell? ⟨w.heap.size + 1, 0, none⟩ = some (.slice a4 nf c4) := d0H
    have d1 : V.cell? ⟨w.heap.size + 1, 1, none⟩ = some (.slice a5 nv c5) := d1H
    go_wp2_with (first
      | (go_at_call 51; refine (kon _ fVH).mono ?_; rintro e w1 ⟨rfl, f1⟩))
    go_ret3
    exact ⟨_, by rw [show VR = _ from hv2]; rfl, (show Fr (fun _ => False) w V from fVH).same f1, fun L' e => by rw [show FR = none from hf2] at e; cases e⟩
set_option maxRecDepth 20000 in
set_option maxHeartbeats 1000000 in
theorem verify_any (f : Fu) (p : Fm) (a0 a2 a3 a4 a5 : Option Addr) (c0 c2 c3 c4 c5 np nl n nf nv : Nat) (hnp : f.sg.ps.length = np) (hnl : f.loc.length = nl) (hn : f.cd.length = n) (hnf : p.fns.length = nf) (hnv : p.vars.length = nv) (w : World) (h : Fi w f p a0 a2 a3 a4 a5 c0 c2 c3 c4 c5) :
    Calls Tryz.prog 18 #[.agg #[.slice a0 np c0, ci f.sg.res, .slice a2 nl c2, .slice a3 n c3], .agg #[.slice a4 nf c4, .slice a5 nv c5]] w fun e w' => e = .returned (.tuple #[ci (verS f p).1, ci (verS f p).2]) ∧ Fr (fun _ => False) w w' := by
  have kv : ∀ W, Fr (fun _ => False) w W → Calls Tryz.prog 34 #[.agg #[.slice a0 np c0, ci f.sg.res, .slice a2 nl c2, .slice a3 n c3], .agg #[.slice a4 nf c4, .slice a5 nv c5]] W fun e w' => ∃ pv, e = .returned (.tuple #[pv, ci (verS f p).1, ci (verS f p).2]) ∧ Fr (fun _ => False) W w' := fun W hW => (verified_any f p a0 a2 a3 a4 a5 c0 c2 c3 c4 c5 np nl n nf nv hnp hnl hn hnf hnv W (h.keep hW)).mono (fun e w' g => by obtain ⟨pv, g1, g2, _⟩ := g; exact ⟨pv, g1, g2⟩)
  clear h hnp hnl hn hnf hnv
  generalize f.sg.res = rs at *
  generalize verS f p = VR at *
  go_enter Tryz.func18, Tryz.ntmps18
  go_wp2_with (first
    | (go_at_call 34; refine (kv _ ((Fr.alloc _ _ _).same (Fr.alloc _ _ _))).mono ?_; rintro e w1 ⟨pv, rfl, f1⟩))
  go_ret2
  exact ⟨rfl, ((Fr.alloc _ _ _).same (Fr.alloc _ _ _)).same f1⟩
end Go.Proofs.YtoiglopilpoafaaGreatDoor.Cd

namespace Go.Proofs.YtoiglopilpoafaaGreatDoor.Cd
open Go.RowKit Ty
theorem fz_row {w : World} {g : Nat} {cs : Array Value} {t : TypeId} (hg : w.heap[g]? = some (.cells cs t (0, 0))) (j : Nat) : w.frozen? ⟨g, j, none⟩ = false := by simp [World.frozen?, hg]
end Go.Proofs.YtoiglopilpoafaaGreatDoor.Cd

namespace Go.Proofs.YtoiglopilpoafaaGreatDoor.Cd
open Go.RowKit Ty
set_option linter.unusedSimpArgs false
set_option linter.unusedVariables false

/-- A row of ints of the call's own. -/
abbrev IR (w : World) (B : Nat) (v : Value) (l : List Int) : Prop := w.ownsRow B 3 1 v l.length (l.map ci)
theorem info_ii : (Tryz.prog.info? 3).map (fun i => (i.zero, i.size, i.bytes)) = some (some (.int .i64 0), 1, 8) := by kernel_rfl
theorem wpl_int {w : World} {ops : Array Oper} {rest : List Oper} {o : Oper} {a : Act} {Q : Exit → Act → World → Prop} (hgd : o.guard = none) (s x : Operand)
    (ho : o.op = .call { callee := .builtin .append, args := #[s, x], argTypes := #[41, 41] }) (B : Nat) (v : Value) (l : List Int) (c : Int) (g : Nat)
    (hs : a.eval s = v) (hr : IR w B v l) (hx : a.eval x = .slice (some ⟨g, 0, none⟩) 1 1) (hc : w.cell? ⟨g, 0, none⟩ = some (ci c)) (hl : l.length ≤ 100000) (hB : B ≤ w.heap.size)
    (h : ∀ v' w', IR w' B v' (l ++ [c]) → Ap w w' v v' → wpList Tryz.prog ops Q rest (a.put o.dst v') w') : wpList Tryz.prog ops Q (o :: rest) a w := by
  refine wpl_append hgd s x 41 3 _ 1 8 Tryz.underlying41 info_ii rfl (by decide) ho B v l.length (l.map ci) ⟨g, 0, none⟩ 1 1 [ci c] hs hr hx rfl ?_ ?_ ?_ ?_ hB ?_
  · intro j u hu
    rw [Addr.add_lit, Nat.zero_add]
    cases j with
    | zero => simp at hu; subst hu; exact hc
    | succ j => simp at hu
  · intro u hu
    simp only [List.mem_cons, List.not_mem_nil, or_false] at hu
    rw [hu]; rfl
  · simp only [maxLen]; omega
  · omega
  · intro v' w' h1 h2 h3
    refine h v' w' ?_ (Ap.of h2 h3)
    show w'.ownsRow B _ 1 v' (l ++ [c]).length ((l ++ [c]).map ci)
    rw [List.map_append, show (l ++ [c]).length = l.length + 1 by rw [List.length_append]; rfl]
    simpa using h1
/-- The shape at a place, if it was come to. -/
def atS (o : Option Cs) (k : Nat) : Option Sp := o.bind fun L => (L[k]?).bind fun c => c.map fun x => x.2
/-- What Shape answers. -/
def shpS (f : Fu) (p : Fm) (a : Int) : Option Sp := if (verS f p).2 ≠ 0 ∨ a < 0 ∨ (f.cd.length : Int) ≤ a then none else atS (finS f p) a.toNat
end Go.Proofs.YtoiglopilpoafaaGreatDoor.Cd

namespace Go.Proofs.YtoiglopilpoafaaGreatDoor.Cd
open Go.RowKit Ty
set_option linter.unusedSimpArgs false
set_option linter.unusedVariables false

theorem own_low {w : World} {B B' : Nat} {e : TypeId} {size : Nat} {v : Value} {n : Nat} {cells : List Value} (h : w.ownsRow B e size v n cells) (hb : B' ≤ B) : w.ownsRow B' e size v n cells := by
  refine ⟨h.1, ?_⟩
  rcases h.2 with h0 | ⟨g, cap, cur, rfl, hb2, hg, rest⟩
  · exact Or.inl h0
  · exact Or.inr ⟨g, cap, cur, rfl, Nat.le_trans hb hb2, hg, rest⟩
def shL : Option Sp → List Int
  | none => []
  | some s => s.st
def shN : Option Sp → Int
  | none => 0
  | some s => s.tr.length
def shB (o : Option Sp) : Bool := o.isSome
theorem round_err {f : Fu} {p : Fm} {L : Cs} {k : Nat} {s : Sp} {e : Int} (h : roundS f p L k s = .error e) : e = 51 ∨ e = 3 ∨ e = 22 := by
  unfold roundS at h
  split at h
  · cases h; exact Or.inl rfl
  split at h
  · cases h; exact Or.inl rfl
  split at h
  · cases h; exact Or.inr (Or.inl rfl)
  split at h
  · cases h; exact Or.inr (Or.inr rfl)
  split at h
  · cases h; exact Or.inr (Or.inr rfl)
  · cases h
theorem goS_err {f : Fu} {p : Fm} : ∀ {j : Nat} {L : Cs} {k : Nat} {e : Int}, goS f p j L = some (.er k e) → e = 51 ∨ e = 3 ∨ e = 22
  | 0, L, k, e, h => by cases h
  | j + 1, L, k, e, h => by
    unfold goS at h
    cases hl : leastS L with
    | none => rw [hl] at h; cases h
    | some x =>
      obtain ⟨k', s⟩ := x
      rw [hl] at h
      simp only [] at h
      cases hr : roundS f p L k' s with
      | error e' =>
        rw [hr] at h
        cases h
        exact round_err hr
      | ok L' =>
        rw [hr] at h
        exact goS_err (j := j) h
theorem run_err {f : Fu} {p : Fm} {k : Nat} {e : Int} (h : runS f p = .er k e) : e = 51 ∨ e = 3 ∨ e = 22 := by
  have := run_some f p
  rw [h] at this
  exact goS_err this
theorem ver_fin {f : Fu} {p : Fm} (h : (verS f p).2 = 0) : ∃ L, finS f p = some L ∧ runS f p = .ok L ∧ outS f p = 0 ∧ ¬ 0 ≤ badI f ∧ (verS f p).1 = 0 := by
  by_cases ho : outS f p = 0
  · have ho' : ¬ outS f p ≠ 0 := by simpa using ho
    by_cases hb : 0 ≤ badI f
    · unfold verS at h
      rw [if_neg ho', if_pos hb] at h
      cases h
    · have hv : verS f p = (placeS (runS f p), errS (runS f p)) := by unfold verS; rw [if_neg ho', if_neg hb]
      have hf : finS f p = okR (runS f p) := by unfold finS; rw [if_neg ho', if_neg hb]
      rw [hv] at h ⊢
      rw [hf]
      cases hr : runS f p with
      | ok L => exact ⟨L, rfl, rfl, ho, hb, rfl⟩
      | er k e =>
        exfalso
        rw [hr] at h
        have h : e = 0 := h
        rcases run_err hr with e2 | e2 | e2 <;> omega
  · unfold verS at h
    rw [if_pos ho] at h
    exact absurd h ho
/-- All shapes that are found are such as may be. -/
theorem goS_inv {f : Fu} {p : Fm} (hF : OkF f p) (hr : ∀ k : Nat, k < f.cd.length → rightS (f.cd.getD k default) = true) : ∀ {j : Nat} {L R : Cs}, InvL f.cd.length L → goS f p j L = some (.ok R) → InvL f.cd.length R
  | 0, L, R, _, h => by cases h
  | j + 1, L, R, hinv, h => by
    unfold goS at h
    cases e : leastS L with
    | none =>
      rw [e] at h
      cases h
      exact hinv
    | some x =>
      obtain ⟨k, s⟩ := x
      rw [e] at h
      simp only [] at h
      cases e2 : roundS f p L k s with
      | error e => rw [e2] at h; cases h
      | ok L' =>
        rw [e2] at h
        have hk := (leastS_at e).1
        have hkn : k < f.cd.length := by rw [← hinv.len]; exact (List.getElem?_eq_some_iff.1 hk).1
        exact goS_inv hF hr (j := j) ⟨by rw [(roundS_len hk e2).1]; exact hinv.len, goS_ok hF (fun k hk => right_okI (hr k hk)) hinv.len hinv.ok hk e2, round_over hinv.ov hk e2, round_tz (hr k hkn) (hinv.ov _ _ _ hk) hinv.tz hk e2⟩ h
theorem start_inv (n : Nat) : InvL n (startS n) := by
  have key : ∀ (j : Nat) g x, (startS n)[j]? = some (some (g, x)) → x = ⟨[], []⟩ := by
    intro j g x hx
    unfold startS at hx
    rw [List.getElem?_set] at hx
    split at hx
    · split at hx
      · cases hx; rfl
      · cases hx
    · rw [List.getElem?_replicate] at hx
      split at hx <;> cases hx
  refine ⟨by simp [startS], fun j g x hx => ?_, fun j g x hx => ?_, fun j g x hx => ?_⟩
  · rw [key j g x hx]; exact ⟨fun t ht => by simp at ht, fun t ht => by simp at ht⟩
  · rw [key j g x hx]; rfl
  · rw [key j g x hx]; exact fun t ht => by simp at ht
theorem fin_inv {f : Fu} {p : Fm} {L : Cs} (hr : runS f p = .ok L) (ho : outS f p = 0) (hb : ¬ 0 ≤ badI f) : InvL f.cd.length L := by
  obtain ⟨_, _, _, _, hF⟩ := out_ok ho
  have hright := bad_no hb
  have := run_some f p
  rw [hr] at this
  refine goS_inv hF (fun k hk => hright _ ?_) (start_inv _) this
  rw [List.getD_eq_getElem?_getD, List.getElem?_eq_getElem hk]
  exact List.getElem_mem hk
end Go.Proofs.YtoiglopilpoafaaGreatDoor.Cd
