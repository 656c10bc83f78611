/- Shape, in general. -/
import Derived.Test.YtphpmaimgndjmaaDoorCdSh
namespace Go.Proofs.YtphpmaimgndjmaaDoor.Cd
open Go.RowKit Ty
set_option linter.unusedSimpArgs false
set_option linter.unusedVariables false

theorem own_low {w : World} {B B' : Nat} {e : TypeId} {size : Nat} {v : Value} {n : Nat} {cells : List Value} (h : w.ownsRow B e size v n cells) (hb : B' ≤ B) : w.ownsRow B' e size v n cells := by
  refine ⟨h.1, ?_⟩
  rcases h.2 with h0 | ⟨g, cap, cur, rfl, hb2, hg, rest⟩
  · exact Or.inl h0
  · exact Or.inr ⟨g, cap, cur, rfl, Nat.le_trans hb hb2, hg, rest⟩
def shL : Option Sp → List Int
  | none => []
  | some s => s.st
def shN : Option Sp → Int
  | none => 0
  | some s => s.tr.length
def shB (o : Option Sp) : Bool := o.isSome
theorem round_err {f : Fu} {p : Fm} {L : Cs} {k : Nat} {s : Sp} {e : Int} (h : roundS f p L k s = .error e) : e = 51 ∨ e = 3 ∨ e = 22 := by
  unfold roundS at h
  split at h
  · cases h; exact Or.inl rfl
  split at h
  · cases h; exact Or.inl rfl
  split at h
  · cases h; exact Or.inr (Or.inl rfl)
  split at h
  · cases h; exact Or.inr (Or.inr rfl)
  split at h
  · cases h; exact Or.inr (Or.inr rfl)
  · cases h
theorem goS_err {f : Fu} {p : Fm} : ∀ {j : Nat} {L : Cs} {k : Nat} {e : Int}, goS f p j L = some (.er k e) → e = 51 ∨ e = 3 ∨ e = 22
  | 0, L, k, e, h => by cases h
  | j + 1, L, k, e, h => by
    unfold goS at h
    cases hl : leastS L with
    | none => rw [hl] at h; cases h
    | some x =>
      obtain ⟨k', s⟩ := x
      rw [hl] at h
      simp only [] at h
      cases hr : roundS f p L k' s with
      | error e' =>
        rw [hr] at h
        cases h
        exact round_err hr
      | ok L' =>
        rw [hr] at h
        exact goS_err (j := j) h
theorem run_err {f : Fu} {p : Fm} {k : Nat} {e : Int} (h : runS f p = .er k e) : e = 51 ∨ e = 3 ∨ e = 22 := by
  have := run_some f p
  rw [h] at this
  exact goS_err this
theorem ver_fin {f : Fu} {p : Fm} (h : (verS f p).2 = 0) : ∃ L, finS f p = some L ∧ runS f p = .ok L ∧ outS f p = 0 ∧ ¬ 0 ≤ badI f ∧ (verS f p).1 = 0 := by
  by_cases ho : outS f p = 0
  · have ho' : ¬ outS f p ≠ 0 := by simpa using ho
    by_cases hb : 0 ≤ badI f
    · unfold verS at h
      rw [if_neg ho', if_pos hb] at h
      cases h
    · have hv : verS f p = (placeS (runS f p), errS (runS f p)) := by unfold verS; rw [if_neg ho', if_neg hb]
      have hf : finS f p = okR (runS f p) := by unfold finS; rw [if_neg ho', if_neg hb]
      rw [hv] at h ⊢
      rw [hf]
      cases hr : runS f p with
      | ok L => exact ⟨L, rfl, rfl, ho, hb, rfl⟩
      | er k e =>
        exfalso
        rw [hr] at h
        have h : e = 0 := h
        rcases run_err hr with e2 | e2 | e2 <;> omega
  · unfold verS at h
    rw [if_pos ho] at h
    exact absurd h ho
/-- All shapes that are found are such as may be. -/
theorem goS_inv {f : Fu} {p : Fm} (hF : OkF f p) (hr : ∀ k : Nat, k < f.cd.length → rightS (f.cd.getD k default) = true) : ∀ {j : Nat} {L R : Cs}, InvL f.cd.length L → goS f p j L = some (.ok R) → InvL f.cd.length R
  | 0, L, R, _, h => by cases h
  | j + 1, L, R, hinv, h => by
    unfold goS at h
    cases e : leastS L with
    | none =>
      rw [e] at h
      cases h
      exact hinv
    | some x =>
      obtain ⟨k, s⟩ := x
      rw [e] at h
      simp only [] at h
      cases e2 : roundS f p L k s with
      | error e => rw [e2] at h; cases h
      | ok L' =>
        rw [e2] at h
        have hk := (leastS_at e).1
        have hkn : k < f.cd.length := by rw [← hinv.len]; exact (List.getElem?_eq_some_iff.1 hk).1
        exact goS_inv hF hr (j := j) ⟨by rw [(roundS_len hk e2).1]; exact hinv.len, goS_ok hF (fun k hk => right_okI (hr k hk)) hinv.len hinv.ok hk e2, round_over hinv.ov hk e2, round_tz (hr k hkn) (hinv.ov _ _ _ hk) hinv.tz hk e2⟩ h
theorem start_inv (n : Nat) : InvL n (startS n) := by
  have key : ∀ (j : Nat) g x, (startS n)[j]? = some (some (g, x)) → x = ⟨[], []⟩ := by
    intro j g x hx
    unfold startS at hx
    rw [List.getElem?_set] at hx
    split at hx
    · split at hx
      · cases hx; rfl
      · cases hx
    · rw [List.getElem?_replicate] at hx
      split at hx <;> cases hx
  refine ⟨by simp [startS], fun j g x hx => ?_, fun j g x hx => ?_, fun j g x hx => ?_⟩
  · rw [key j g x hx]; exact ⟨fun t ht => by simp at ht, fun t ht => by simp at ht⟩
  · rw [key j g x hx]; rfl
  · rw [key j g x hx]; exact fun t ht => by simp at ht
theorem fin_inv {f : Fu} {p : Fm} {L : Cs} (hr : runS f p = .ok L) (ho : outS f p = 0) (hb : ¬ 0 ≤ badI f) : InvL f.cd.length L := by
  obtain ⟨_, _, _, _, hF⟩ := out_ok ho
  have hright := bad_no hb
  have := run_some f p
  rw [hr] at this
  refine goS_inv hF (fun k hk => hright _ ?_) (start_inv _) this
  rw [List.getD_eq_getElem?_getD, List.getElem?_eq_getElem hk]
  exact List.getElem_mem hk
set_option maxRecDepth 20000 in
set_option maxHeartbeats 4000000 in
theorem shape_any (f : Fu) (p : Fm) (a0 a2 a3 a4 a5 : Option Addr) (c0 c2 c3 c4 c5 np nl n nf nv : Nat) (hnp : f.sg.ps.length = np) (hnl : f.loc.length = nl) (hn : f.cd.length = n) (hnf : p.fns.length = nf) (hnv : p.vars.length = nv) (at' : Int) (w : World) (h : Fi w f p a0 a2 a3 a4 a5 c0 c2 c3 c4 c5) :
    Calls Tryd.prog 9 #[.agg #[.slice a0 np c0, ci f.sg.res, .slice a2 nl c2, .slice a3 n c3], .agg #[.slice a4 nf c4, .slice a5 nv c5], ci at'] w fun e w' => ∃ v, e = .returned (.tuple #[v, ci (shN (shpS f p at')), .bool (shB (shpS f p at'))]) ∧ IR w' w.heap.size v (shL (shpS f p at')) ∧ Fr (fun _ => False) w w' := by
  have kv : ∀ W, Fr (fun _ => False) w W → _ := fun W hW => verified_any f p a0 a2 a3 a4 a5 c0 c2 c3 c4 c5 np nl n nf nv hnp hnl hn hnf hnv W (h.keep hW)
  have hx : Hidden (shpS f p at' = if (verS f p).2 ≠ 0 ∨ at' < 0 ∨ (n : Int) ≤ at' then none else atS (finS f p) at'.toNat) := by show _ = _; unfold shpS; rw [hn]
  have hfin : (verS f p).2 = 0 → ∃ L, finS f p = some L ∧ InvL n L := fun hz => by
    obtain ⟨L, h1, h2, h3, h4, _⟩ := ver_fin (f := f) (p := p) hz
    exact ⟨L, h1, by rw [← hn]; exact fin_inv h2 h3 h4⟩
  obtain ⟨V, hV⟩ : ∃ V, V = (w.alloc (.cells #[.slice a0 np c0, ci f.sg.res, .slice a2 nl c2, .slice a3 n c3] 35 (0, 0))).alloc (.cells #[.slice a4 nf c4, .slice a5 nv c5] 39 (0, 0)) := ⟨_, rfl⟩
  have fV : Fr (fun _ => False) w V := by rw [hV]; exact (Fr.alloc _ _ _).same (Fr.alloc _ _ _)
  have kvV := kv V fV
  have bb := box4 (show V.heap[w.heap.size]? = some (.cells #[.slice a0 np c0, ci f.sg.res, .slice a2 nl c2, .slice a3 n c3] 35 (0, 0)) by rw [hV]; exact heap_alloc2_old _ _ _)
  have hb2 : V.heap[w.heap.size + 1]? = some (.cells #[.slice a4 nf c4, .slice a5 nv c5] 39 (0, 0)) := by rw [hV]; exact heap_alloc2_new _ _ _
  have d0 : V.cell? ⟨w.heap.size + 1, 0, none⟩ = some (.slice a4 nf c4) := cell_of_row _ _ 0 _ _ _ hb2
  have d1 : V.cell? ⟨w.heap.size + 1, 1, none⟩ = some (.slice a5 nv c5) := cell_of_row _ _ 1 _ _ _ hb2
  have bbH : Hidden _ := bb
  have d0H : Hidden (V.cell? ⟨w.heap.size + 1, 0, none⟩ = some (.slice a4 nf c4)) := d0
  have d1H : Hidden (V.cell? ⟨w.heap.size + 1, 1, none⟩ = some (.slice a5 nv c5)) := d1
  have fVH : Hidden (Fr (fun _ => False) w V) := fV
  have hVH : Hidden (V = _) := hV
  have hfinH : Hidden ((verS f p).2 = 0 → ∃ L, finS f p = some L ∧ InvL n L) := hfin
  clear hV fV kv h hnp hnl hn hnf hnv bb hb2 d0 d1 hfin
  generalize f.sg.res = rs at *
  generalize shpS f p at' = X at hx ⊢
  generalize verS f p = VR at *
  generalize finS f p = FR at *
  obtain ⟨vr1, vr2⟩ := VR
  simp only [] at kvV hx hfinH
  by_cases hv : vr2 = 0
  · obtain ⟨L, hFR, hinv⟩ := (show vr2 = 0 → _ from hfinH) hv
    subst hv
    by_cases h0 : at' < 0
    · have hX : Hidden (X = none) := by have := (show X = _ from hx); rw [if_pos (Or.inr (Or.inl h0))] at this; exact this
      have h0b : decide (at' < 0) = true := by simpa using h0
      clear hx hfinH hFR hinv h0
      go_enter Tryd.func9, Tryd.ntmps9
      go_upto_region 1 with fail
      rw [← (show V = _ from hVH)]
      clear hVH
      obtain ⟨b0, b1, b2, b3⟩ := bbH
      have d0 : V.cell? ⟨w.heap.size + 1, 0, none⟩ = some (.slice a4 nf c4) := d0H
      have d1 : V.cell? ⟨w.heap.size + 1, 1, none⟩ = some (.slice a5 nv c5) := d1H
      go_wp2_with (first
        | (go_at_call 18; refine kvV.mono ?_; rintro e w1 ⟨pv, rfl, f1, hL⟩
           clear hL
           replace b3 := f1.cellN b3))
      go_ret3
      rw [show X = none from hX]
      exact ⟨.slice none 0 0, rfl, own_nil _ _ _ _, (show Fr (fun _ => False) w V from fVH).same f1⟩
    have h0b : decide (at' < 0) = false := by simpa using h0
    obtain ⟨k, rfl⟩ : ∃ k : Nat, at' = k := ⟨at'.toNat, by omega⟩
    by_cases h1 : n ≤ k
    · have hX : Hidden (X = none) := by have := (show X = _ from hx); rw [if_pos (Or.inr (Or.inr (by omega)))] at this; exact this
      have h1b : decide ((n : Int) ≤ (k : Int)) = true := by simp; omega
      have h1c : decide (n ≤ k) = true := by simp; omega
      clear hx hfinH hFR hinv h0
      go_enter Tryd.func9, Tryd.ntmps9
      go_upto_region 1 with fail
      rw [← (show V = _ from hVH)]
      clear hVH
      obtain ⟨b0, b1, b2, b3⟩ := bbH
      have d0 : V.cell? ⟨w.heap.size + 1, 0, none⟩ = some (.slice a4 nf c4) := d0H
      have d1 : V.cell? ⟨w.heap.size + 1, 1, none⟩ = some (.slice a5 nv c5) := d1H
      go_wp2_with (first
        | (go_at_call 18; refine kvV.mono ?_; rintro e w1 ⟨pv, rfl, f1, hL⟩
           clear hL
           replace b3 := f1.cellN b3))
      go_ret3
      rw [show X = none from hX]
      exact ⟨.slice none 0 0, rfl, own_nil _ _ _ _, (show Fr (fun _ => False) w V from fVH).same f1⟩
    have h1b : decide ((n : Int) ≤ (k : Int)) = false := by simp; omega
    have h1c : decide (n ≤ k) = false := by simp; omega
    have hkn : k < n := by omega
    have hXL : Hidden (X = atS (some L) k) := by have := (show X = _ from hx); rw [if_neg (by rintro (e | e | e); exact e rfl; omega; omega), hFR, Int.toNat_natCast] at this; exact this
    obtain ⟨c, hc⟩ : ∃ c, L[k]? = some c := ⟨_, List.getElem?_eq_getElem (by rw [hinv.len]; exact hkn)⟩
    have hcH : Hidden (L[k]? = some c) := hc
    have hinvH : Hidden (InvL n L) := hinv
    have hFRH : Hidden (FR = some L) := hFR
    clear hx hfinH hFR hinv h0 h1 hc
    go_enter Tryd.func9, Tryd.ntmps9
    go_upto_region 1 with fail
    rw [← (show V = _ from hVH)]
    clear hVH
    obtain ⟨b0, b1, b2, b3⟩ := bbH
    have d0 : V.cell? ⟨w.heap.size + 1, 0, none⟩ = some (.slice a4 nf c4) := d0H
    have d1 : V.cell? ⟨w.heap.size + 1, 1, none⟩ = some (.slice a5 nv c5) := d1H
    go_upto_region 2 with (first
      | (go_at_call 18; refine kvV.mono ?_; rintro e w1 ⟨pv, rfl, f1, hL⟩
         replace b3 := f1.cellN b3
         obtain ⟨q, gs, ga, rfl, hwk⟩ := hL L hFRH))
    clear hL
    obtain ⟨_, _, _, _, _, _, b6, b7⟩ := box8 hwk.box
    have cz := st_at hwk.st (show L[k]? = some c from hcH)
    obtain ⟨y0, y1, y2⟩ := ah_at hwk.ah (show L[k]? = some c from hcH)
    have fw1 : Hidden (Fr (fun _ => False) w w1) := (show Fr (fun _ => False) w V from fVH).same f1
    have hkz : (k : Int) < (n : Int) := by omega
    clear hwk f1
    cases c with
    | none =>
      have hX : Hidden (X = none) := by have := (show X = _ from hXL); rw [this]; unfold atS; rw [Option.bind_some, show L[k]? = _ from hcH]; rfl
      simp only [stN] at cz
      go_wp2_with fail
      go_ret3
      rw [show X = none from hX]
      exact ⟨.slice none 0 0, rfl, own_nil _ _ _ _, fw1⟩
    | some z =>
      obtain ⟨g, s⟩ := z
      have hX : Hidden (X = some s) := by have := (show X = _ from hXL); rw [this]; unfold atS; rw [Option.bind_some, show L[k]? = _ from hcH]; rfl
      have hos := (show InvL n L from hinvH).ok _ _ _ (show L[k]? = _ from hcH)
      have hov := over_len ((show InvL n L from hinvH).ov _ _ _ (show L[k]? = _ from hcH))
      have kt := fun W => typesOf_any s.st hos.st (by omega) W
      simp only [shO] at y0 y1 y2
      obtain ⟨zz, hzz, hz0⟩ : ∃ zz : Int, stN (some (g, s)) = zz ∧ (zz == 0) = false := by cases g; exact ⟨1, rfl, rfl⟩; exact ⟨2, rfl, rfl⟩
      rw [hzz] at cz
      generalize encSt s.st = S at kt y0
      obtain ⟨m, hm⟩ : ∃ m, m = s.tr.length := ⟨_, rfl⟩
      rw [← hm] at y2
      have hmH : Hidden (m = s.tr.length) := hm
      clear hzz hm hos hov
      go_upto_region 4 with fail
      have hsz1 : Hidden (w.heap.size ≤ w1.heap.size) := (show Fr (fun _ => False) w w1 from fw1).size
      go_region_held3 (fun w' => w'.cell? ⟨q, 7, none⟩ = some (.slice (some ⟨ga, 0, none⟩) n n) ∧ w'.cell? ⟨ga, k * 3, none⟩ = some (ct S) ∧ w'.cell? ⟨ga, k * 3 + 2, none⟩ = some (ci (m : Int))) (first | (refine ⟨by with_reducible assumption, by with_reducible assumption, by with_reducible assumption⟩) | go_keep) (first
        | (go_at_call 19; refine (kt _).mono ?_; rintro e w2 ⟨v, rfl, hr, f2⟩; have g2 : Fr (fun _ => False) w1 w2 := (by first | exact f2 | exact (Fr.drew _ _).same f2); have q7 := g2.cellN b7; have p0 := g2.cellN y0; have p2 := g2.cellN y2; have hrH : Hidden (IR w2 w.heap.size v s.st) := (own_low hr (by first | exact hsz1 | exact Nat.le_trans (show w.heap.size ≤ w1.heap.size from hsz1) (Nat.le_refl _))); have g2H : Hidden (Fr (fun _ => False) w1 w2) := g2; clear hr f2 g2))
      all_goals
        go_wp2_with fail
        go_ret3
        rw [show X = some s from hX]
        exact ⟨v, by rw [show m = s.tr.length from hmH]; rfl, hrH, (show Fr (fun _ => False) w w1 from fw1).same g2H⟩
  · have hX : Hidden (X = none) := by have := (show X = _ from hx); rw [if_pos (Or.inl hv)] at this; exact this
    have hvb : (vr2 == 0) = false := by simpa using hv
    have hvc : (vr2 != 0) = true := by simpa using hv
    clear hx hfinH hv
    go_enter Tryd.func9, Tryd.ntmps9
    go_upto_region 1 with fail
    rw [← (show V = _ from hVH)]
    clear hVH
    obtain ⟨b0, b1, b2, b3⟩ := bbH
    have d0 : V.cell? ⟨w.heap.size + 1, 0, none⟩ = some (.slice a4 nf c4) := d0H
    have d1 : V.cell? ⟨w.heap.size + 1, 1, none⟩ = some (.slice a5 nv c5) := d1H
    go_wp2_with (first
      | (go_at_call 18; refine kvV.mono ?_; rintro e w1 ⟨pv, rfl, f1, hL⟩
         clear hL
         replace b3 := f1.cellN b3))
    go_ret3
    rw [show X = none from hX]
    exact ⟨.slice none 0 0, rfl, own_nil _ _ _ _, (show Fr (fun _ => False) w V from fVH).same f1⟩
end Go.Proofs.YtphpmaimgndjmaaDoor.Cd
