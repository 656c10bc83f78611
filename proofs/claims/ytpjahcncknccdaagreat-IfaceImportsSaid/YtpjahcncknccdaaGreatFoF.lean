/- What an expression comes to: the program. -/
import Derived.Test.YtpjahcncknccdaaGreatFoE
import Derived.Test.YtpjahcncknccdaaGreatFoU
namespace Go.Proofs.YtpjahcncknccdaaGreat.Fo
open Go.RowKit Te
set_option linter.unusedSimpArgs false
set_option linter.unusedVariables false

theorem cell_lt {w : World} {b off : Nat} {v : Value} (h : w.cell? ⟨b, off, none⟩ = some v) : b < w.heap.size := by
  by_cases hb : b < w.heap.size
  · exact hb
  · simp [World.cell?, Array.getElem?_eq_none (Nat.le_of_not_lt hb)] at h
def VlX (l : List Con) (h : EH) (k : Exs) : Prop := ∀ (ao : Option Addr) (cap : Nat) (la : Option Addr) (lc : Nat) (w : World), OkE h → OkX k → errH rnS cnS h k.len = 0 → errL rnS cnS k = 0 → ExL w ao cap k → CoL w la lc l →
  Calls Tryz.prog 114 #[exV h (.slice ao k.len cap), .slice la l.length lc] w fun e w' => e = (evX l h k).fin ∧ Fr FN w w'
def AllV (l : List Con) : Exs → Prop
  | .nil => True
  | .cons h k r => VlX l h k ∧ AllV l r
theorem fits_kind {h : EH} {n : Nat} (hf : fitsE cnS h n = true) : h.kind = 1 ∨ h.kind = 2 ∨ h.kind = 3 ∨ h.kind = 4 ∨ h.kind = 5 ∨ (h.kind = 6 ∧ n = 1) ∨ (h.kind = 7 ∧ n = 2) ∨ h.kind = 8 := by
  unfold fitsE at hf
  by_cases h1 : h.kind = 1
  · exact Or.inl h1
  by_cases h2 : h.kind = 2
  · exact Or.inr (Or.inl h2)
  by_cases h3 : h.kind = 3
  · exact Or.inr (Or.inr (Or.inl h3))
  by_cases h4 : h.kind = 4
  · exact Or.inr (Or.inr (Or.inr (Or.inl h4)))
  by_cases h5 : h.kind = 5
  · exact Or.inr (Or.inr (Or.inr (Or.inr (Or.inl h5))))
  rw [if_neg h1, if_neg h2, if_neg h3, if_neg h4, if_neg h5] at hf
  by_cases h6 : h.kind = 6
  · rw [if_pos h6] at hf
    have := of_decide_eq_true hf
    exact Or.inr (Or.inr (Or.inr (Or.inr (Or.inr (Or.inl ⟨h6, this.2.2.1⟩)))))
  by_cases h7 : h.kind = 7
  · rw [if_neg h6, if_pos h7] at hf
    have := of_decide_eq_true hf
    exact Or.inr (Or.inr (Or.inr (Or.inr (Or.inr (Or.inr (Or.inl ⟨h7, this.2.2.1⟩))))))
  by_cases h8 : h.kind = 8
  · exact Or.inr (Or.inr (Or.inr (Or.inr (Or.inr (Or.inr (Or.inr h8))))))
  rw [if_neg h6, if_neg h7, if_neg h8] at hf
  cases hf
set_option maxRecDepth 20000 in
set_option maxHeartbeats 4000000 in
theorem val_1 (l : List Con) (hok : ∀ c ∈ l, U64 c.b) (op : Int) (mod name : Bs) (vt vb : Int) (k : Exs) (ih : AllV l k) : VlX l ⟨1, op, mod, name, vt, vb⟩ k := by
  intro ao cap la lc w ho hx he hel hk hl
  have f0 : Fr FN w ((w.alloc (exO ⟨1, op, mod, name, vt, vb⟩ (.slice ao k.len cap))).alloc zo) := (Fr.alloc _ _ _).same (Fr.alloc _ _ _)
  have hA : Hidden (((w.alloc (exO ⟨1, op, mod, name, vt, vb⟩ (.slice ao k.len cap))).alloc zo).heap[w.heap.size]? = some (exO ⟨1, op, mod, name, vt, vb⟩ (.slice ao k.len cap))) := (alloc_old _ _ _ (by simp)).trans (alloc_new _ _)
  have hC : Hidden (((w.alloc (exO ⟨1, op, mod, name, vt, vb⟩ (.slice ao k.len cap))).alloc zo).heap[w.heap.size + 1]? = some zo) := alloc_at _ _ _ (by simp)
  rw [show evX l ⟨1, op, mod, name, vt, vb⟩ k = .ok (vt, vb) from rfl, fin_ok]
  dsimp only [vv]
  clear ih ho hx he hel hk hl hA hC
  go_enter Tryz.func114, Tryz.ntmps114
  go_wp2
  exact post_v1 (alloc_at _ _ _ (by simp)) rfl rfl rfl ⟨rfl, (Fr.alloc _ _ _).same (Fr.alloc _ _ _)⟩
set_option maxRecDepth 20000 in
set_option maxHeartbeats 4000000 in
theorem val_2 (l : List Con) (hok : ∀ c ∈ l, U64 c.b) (op : Int) (mod name : Bs) (vt vb : Int) (k : Exs) (ih : AllV l k) : VlX l ⟨2, op, mod, name, vt, vb⟩ k := by
  intro ao cap la lc w ho hx he hel hk hl
  have f0 : Fr FN w ((w.alloc (exO ⟨2, op, mod, name, vt, vb⟩ (.slice ao k.len cap))).alloc zo) := (Fr.alloc _ _ _).same (Fr.alloc _ _ _)
  have hA : Hidden (((w.alloc (exO ⟨2, op, mod, name, vt, vb⟩ (.slice ao k.len cap))).alloc zo).heap[w.heap.size]? = some (exO ⟨2, op, mod, name, vt, vb⟩ (.slice ao k.len cap))) := (alloc_old _ _ _ (by simp)).trans (alloc_new _ _)
  have hC : Hidden (((w.alloc (exO ⟨2, op, mod, name, vt, vb⟩ (.slice ao k.len cap))).alloc zo).heap[w.heap.size + 1]? = some zo) := alloc_at _ _ _ (by simp)
  rw [show evX l ⟨2, op, mod, name, vt, vb⟩ k = findC l mod name from rfl]
  have kn := named_any mod name l la lc _ (hl.keep f0) hok
  generalize findC l mod name = R at kn ⊢
  clear ih ho hx he hel hk hl hok
  rcases R with ⟨t, b⟩ | c | c
  · rw [fin_ok] at kn ⊢
    dsimp only [vv] at kn ⊢
    go_enter Tryz.func114, Tryz.ntmps114
    go_wp2_with (go_at_call 136; refine kn.mono ?_; rintro e w2 ⟨rfl, f2⟩; have q2 := f2.heap hC (fun f => f); obtain ⟨c0, c1, z0, z1⟩ := box2 q2)
    exact post_v1 (set_two q2 _ _) rfl rfl rfl ⟨rfl, fr_two (f0.same f2) (by omega) _ _⟩
  · rw [fin_flt] at kn ⊢
    go_enter Tryz.func114, Tryz.ntmps114
    go_wp2_with (go_at_call 136; refine kn.mono ?_; rintro e w2 ⟨rfl, f2⟩)
    exact ⟨rfl, rfl, f0.same f2⟩
  · rw [fin_trp] at kn ⊢
    go_enter Tryz.func114, Tryz.ntmps114
    go_wp2_with (go_at_call 136; refine kn.mono ?_; rintro e w2 ⟨rfl, f2⟩)
    exact ⟨rfl, rfl, f0.same f2⟩
set_option maxRecDepth 20000 in
set_option maxHeartbeats 4000000 in
theorem val_3 (l : List Con) (hok : ∀ c ∈ l, U64 c.b) (op : Int) (mod name : Bs) (vt vb : Int) (k : Exs) (ih : AllV l k) : VlX l ⟨3, op, mod, name, vt, vb⟩ k := by
  intro ao cap la lc w ho hx he hel hk hl
  have f0 : Fr FN w ((w.alloc (exO ⟨3, op, mod, name, vt, vb⟩ (.slice ao k.len cap))).alloc zo) := (Fr.alloc _ _ _).same (Fr.alloc _ _ _)
  have hA : Hidden (((w.alloc (exO ⟨3, op, mod, name, vt, vb⟩ (.slice ao k.len cap))).alloc zo).heap[w.heap.size]? = some (exO ⟨3, op, mod, name, vt, vb⟩ (.slice ao k.len cap))) := (alloc_old _ _ _ (by simp)).trans (alloc_new _ _)
  have hC : Hidden (((w.alloc (exO ⟨3, op, mod, name, vt, vb⟩ (.slice ao k.len cap))).alloc zo).heap[w.heap.size + 1]? = some zo) := alloc_at _ _ _ (by simp)
  rw [show evX l ⟨3, op, mod, name, vt, vb⟩ k = findC l mod name from rfl]
  have kn := named_any mod name l la lc _ (hl.keep f0) hok
  generalize findC l mod name = R at kn ⊢
  clear ih ho hx he hel hk hl hok
  rcases R with ⟨t, b⟩ | c | c
  · rw [fin_ok] at kn ⊢
    dsimp only [vv] at kn ⊢
    go_enter Tryz.func114, Tryz.ntmps114
    go_wp2_with (go_at_call 136; refine kn.mono ?_; rintro e w2 ⟨rfl, f2⟩; have q2 := f2.heap hC (fun f => f); obtain ⟨c0, c1, z0, z1⟩ := box2 q2)
    exact post_v1 (set_two q2 _ _) rfl rfl rfl ⟨rfl, fr_two (f0.same f2) (by omega) _ _⟩
  · rw [fin_flt] at kn ⊢
    go_enter Tryz.func114, Tryz.ntmps114
    go_wp2_with (go_at_call 136; refine kn.mono ?_; rintro e w2 ⟨rfl, f2⟩)
    exact ⟨rfl, rfl, f0.same f2⟩
  · rw [fin_trp] at kn ⊢
    go_enter Tryz.func114, Tryz.ntmps114
    go_wp2_with (go_at_call 136; refine kn.mono ?_; rintro e w2 ⟨rfl, f2⟩)
    exact ⟨rfl, rfl, f0.same f2⟩
set_option maxRecDepth 20000 in
set_option maxHeartbeats 4000000 in
theorem val_4 (l : List Con) (hok : ∀ c ∈ l, U64 c.b) (op : Int) (mod name : Bs) (vt vb : Int) (k : Exs) (ih : AllV l k) : VlX l ⟨4, op, mod, name, vt, vb⟩ k := by
  intro ao cap la lc w ho hx he hel hk hl
  have f0 : Fr FN w ((w.alloc (exO ⟨4, op, mod, name, vt, vb⟩ (.slice ao k.len cap))).alloc zo) := (Fr.alloc _ _ _).same (Fr.alloc _ _ _)
  have hA : Hidden (((w.alloc (exO ⟨4, op, mod, name, vt, vb⟩ (.slice ao k.len cap))).alloc zo).heap[w.heap.size]? = some (exO ⟨4, op, mod, name, vt, vb⟩ (.slice ao k.len cap))) := (alloc_old _ _ _ (by simp)).trans (alloc_new _ _)
  have hC : Hidden (((w.alloc (exO ⟨4, op, mod, name, vt, vb⟩ (.slice ao k.len cap))).alloc zo).heap[w.heap.size + 1]? = some zo) := alloc_at _ _ _ (by simp)
  rw [show evX l ⟨4, op, mod, name, vt, vb⟩ k = callF (evF l k) from rfl]
  obtain ⟨W0, hW0⟩ : ∃ W, W = ((w.alloc (exO ⟨4, op, mod, name, vt, vb⟩ (.slice ao k.len cap))).alloc zo) := ⟨_, rfl⟩
  rw [← hW0] at f0 hA hC
  have hW0H : Hidden (W0 = _) := hW0
  have hrest := (hk.keep f0).rest
  obtain ⟨hcap, hmax, _⟩ := hk
  have hlen : k.len ≤ 9223372036854775807 := by unfold maxLen at hmax; omega
  have hlW : Hidden (CoL W0 la lc l) := hl.keep f0
  have f0H : Hidden (Fr FN w W0) := f0
  obtain ⟨a0, a1, a2, a3, a4, a5, a6⟩ := ex_box hA
  clear hl hW0 he ho f0
  go_enter Tryz.func114, Tryz.ntmps114
  go_wp2_with fail
  rw [← (show W0 = _ from hW0H)]
  go_loopg [25] k.len (fun g iv wr => ∃ (i : Nat) (r : Exs), iv = ci (i : Int) ∧ i + r.len = k.len ∧ AllV l r ∧ OkX r ∧ errL rnS cnS r = 0 ∧ ExR W0 ao i r ∧ callF (evF l k) = callF (evF l r) ∧ g = r.len ∧ Fr FN W0 wr)
  case atStart => exact ⟨0, k, rfl, by omega, ih, hx, hel, hrest, rfl, rfl, Fr.refl _ _⟩
  case round =>
    obtain ⟨i, r, rfl, hlen2, hih, hxr, herr, hrow, hdk, hgk, hfr⟩ := hrel
    have hgkH : Hidden (gk = r.len) := hgk
    have hdkH : Hidden (callF (evF l k) = callF (evF l r)) := hdk
    have hlenH : Hidden (i + r.len = k.len) := hlen2
    clear hgk hdk hlen2 hrest ih hx hel
    cases r with
    | nil =>
      have hi : i = k.len := hlenH
      subst hi
      have hres : Hidden (callF (evF l k) = .flt 25) := hdkH
      go_wp2_with fail
      exact ⟨rfl, by rw [show callF (evF l k) = .flt 25 from hres]; rfl, (show Fr FN w W0 from f0H).same hfr⟩
    | cons h' k' r' =>
      have hil : i < k.len := by have : i + (r'.len + 1) = k.len := hlenH; omega
      obtain ⟨b, off, ao', cap', rfl, hL, hrow2, d0, d1, d2, d3, d4, d5, d6⟩ := hrow.next
      have d0 := hfr.cellN d0
      have d1 := hfr.cellN d1
      have d2 := hfr.cellN d2
      have d3 := hfr.cellN d3
      have d4 := hfr.cellN d4
      have d5 := hfr.cellN d5
      have d6 := hfr.cellN d6
      have f2 := hfr.same (Fr.alloc FN wr (exO h' (.slice ao' k'.len cap')))
      have he2 := orE0 (show orE (orE (errH rnS cnS h' k'.len) (errL rnS cnS k')) (errL rnS cnS r') = 0 from herr)
      have kc := hih.1 ao' cap' la lc _ hxr.1 hxr.2.1 (orE0 he2.1).1 (orE0 he2.1).2 (hL.keep f2) ((show CoL W0 la lc l from hlW).keep f2)
      have hev : Hidden (callF (evF l k) = (evX l h' k').bd fun _ => callF (evF l r')) := hdkH
      have hih2 := hih.2
      have herr2 : Hidden (errL rnS cnS r' = 0) := he2.2
      have hxr2 := hxr.2.2
      clear hih herr he2 hxr hdkH hL
      generalize evX l h' k' = E at kc hev
      rcases E with v | c | c
      · rw [fin_ok] at kc
        go_wp2_with fail
        go_at_call 114
        refine kc.mono ?_
        rintro e W3 ⟨rfl, f3⟩
        go_wp2_with fail
        go_roundg r'.len
        case measure =>
          have : gk = r'.len + 1 := hgkH
          omega
        case rel =>
          refine ⟨i + 1, r', by go_num, ?_, hih2, hxr2, herr2, hrow2, hev, rfl, f2.same f3⟩
          have : i + (r'.len + 1) = k.len := hlenH
          omega
      · rw [fin_flt] at kc
        go_wp2_with fail
        go_at_call 114
        refine kc.mono ?_
        rintro e W3 ⟨rfl, f3⟩
        go_wp2_with fail
        exact ⟨rfl, by rw [show callF (evF l k) = _ from hev]; rfl, (show Fr FN w W0 from f0H).same (f2.same f3)⟩
      · rw [fin_trp] at kc
        go_wp2_with fail
        go_at_call 114
        refine kc.mono ?_
        rintro e W3 ⟨rfl, f3⟩
        go_wp2_with fail
        exact ⟨rfl, by rw [show callF (evF l k) = _ from hev]; rfl, (show Fr FN w W0 from f0H).same (f2.same f3)⟩
set_option maxRecDepth 20000 in
set_option maxHeartbeats 4000000 in
theorem val_5 (l : List Con) (hok : ∀ c ∈ l, U64 c.b) (op : Int) (mod name : Bs) (vt vb : Int) (k : Exs) (ih : AllV l k) : VlX l ⟨5, op, mod, name, vt, vb⟩ k := by
  intro ao cap la lc w ho hx he hel hk hl
  have f0 : Fr FN w ((w.alloc (exO ⟨5, op, mod, name, vt, vb⟩ (.slice ao k.len cap))).alloc zo) := (Fr.alloc _ _ _).same (Fr.alloc _ _ _)
  have hA : Hidden (((w.alloc (exO ⟨5, op, mod, name, vt, vb⟩ (.slice ao k.len cap))).alloc zo).heap[w.heap.size]? = some (exO ⟨5, op, mod, name, vt, vb⟩ (.slice ao k.len cap))) := (alloc_old _ _ _ (by simp)).trans (alloc_new _ _)
  have hC : Hidden (((w.alloc (exO ⟨5, op, mod, name, vt, vb⟩ (.slice ao k.len cap))).alloc zo).heap[w.heap.size + 1]? = some zo) := alloc_at _ _ _ (by simp)
  rw [show evX l ⟨5, op, mod, name, vt, vb⟩ k = callF (evF l k) from rfl]
  obtain ⟨W0, hW0⟩ : ∃ W, W = ((w.alloc (exO ⟨5, op, mod, name, vt, vb⟩ (.slice ao k.len cap))).alloc zo) := ⟨_, rfl⟩
  rw [← hW0] at f0 hA hC
  have hW0H : Hidden (W0 = _) := hW0
  have hrest := (hk.keep f0).rest
  obtain ⟨hcap, hmax, _⟩ := hk
  have hlen : k.len ≤ 9223372036854775807 := by unfold maxLen at hmax; omega
  have hlW : Hidden (CoL W0 la lc l) := hl.keep f0
  have f0H : Hidden (Fr FN w W0) := f0
  obtain ⟨a0, a1, a2, a3, a4, a5, a6⟩ := ex_box hA
  clear hl hW0 he ho f0
  go_enter Tryz.func114, Tryz.ntmps114
  go_wp2_with fail
  rw [← (show W0 = _ from hW0H)]
  go_loopg [25] k.len (fun g iv wr => ∃ (i : Nat) (r : Exs), iv = ci (i : Int) ∧ i + r.len = k.len ∧ AllV l r ∧ OkX r ∧ errL rnS cnS r = 0 ∧ ExR W0 ao i r ∧ callF (evF l k) = callF (evF l r) ∧ g = r.len ∧ Fr FN W0 wr)
  case atStart => exact ⟨0, k, rfl, by omega, ih, hx, hel, hrest, rfl, rfl, Fr.refl _ _⟩
  case round =>
    obtain ⟨i, r, rfl, hlen2, hih, hxr, herr, hrow, hdk, hgk, hfr⟩ := hrel
    have hgkH : Hidden (gk = r.len) := hgk
    have hdkH : Hidden (callF (evF l k) = callF (evF l r)) := hdk
    have hlenH : Hidden (i + r.len = k.len) := hlen2
    clear hgk hdk hlen2 hrest ih hx hel
    cases r with
    | nil =>
      have hi : i = k.len := hlenH
      subst hi
      have hres : Hidden (callF (evF l k) = .flt 25) := hdkH
      go_wp2_with fail
      exact ⟨rfl, by rw [show callF (evF l k) = .flt 25 from hres]; rfl, (show Fr FN w W0 from f0H).same hfr⟩
    | cons h' k' r' =>
      have hil : i < k.len := by have : i + (r'.len + 1) = k.len := hlenH; omega
      obtain ⟨b, off, ao', cap', rfl, hL, hrow2, d0, d1, d2, d3, d4, d5, d6⟩ := hrow.next
      have d0 := hfr.cellN d0
      have d1 := hfr.cellN d1
      have d2 := hfr.cellN d2
      have d3 := hfr.cellN d3
      have d4 := hfr.cellN d4
      have d5 := hfr.cellN d5
      have d6 := hfr.cellN d6
      have f2 := hfr.same (Fr.alloc FN wr (exO h' (.slice ao' k'.len cap')))
      have he2 := orE0 (show orE (orE (errH rnS cnS h' k'.len) (errL rnS cnS k')) (errL rnS cnS r') = 0 from herr)
      have kc := hih.1 ao' cap' la lc _ hxr.1 hxr.2.1 (orE0 he2.1).1 (orE0 he2.1).2 (hL.keep f2) ((show CoL W0 la lc l from hlW).keep f2)
      have hev : Hidden (callF (evF l k) = (evX l h' k').bd fun _ => callF (evF l r')) := hdkH
      have hih2 := hih.2
      have herr2 : Hidden (errL rnS cnS r' = 0) := he2.2
      have hxr2 := hxr.2.2
      clear hih herr he2 hxr hdkH hL
      generalize evX l h' k' = E at kc hev
      rcases E with v | c | c
      · rw [fin_ok] at kc
        go_wp2_with fail
        go_at_call 114
        refine kc.mono ?_
        rintro e W3 ⟨rfl, f3⟩
        go_wp2_with fail
        go_roundg r'.len
        case measure =>
          have : gk = r'.len + 1 := hgkH
          omega
        case rel =>
          refine ⟨i + 1, r', by go_num, ?_, hih2, hxr2, herr2, hrow2, hev, rfl, f2.same f3⟩
          have : i + (r'.len + 1) = k.len := hlenH
          omega
      · rw [fin_flt] at kc
        go_wp2_with fail
        go_at_call 114
        refine kc.mono ?_
        rintro e W3 ⟨rfl, f3⟩
        go_wp2_with fail
        exact ⟨rfl, by rw [show callF (evF l k) = _ from hev]; rfl, (show Fr FN w W0 from f0H).same (f2.same f3)⟩
      · rw [fin_trp] at kc
        go_wp2_with fail
        go_at_call 114
        refine kc.mono ?_
        rintro e W3 ⟨rfl, f3⟩
        go_wp2_with fail
        exact ⟨rfl, by rw [show callF (evF l k) = _ from hev]; rfl, (show Fr FN w W0 from f0H).same (f2.same f3)⟩
set_option maxRecDepth 20000 in
set_option maxHeartbeats 4000000 in
theorem val_8 (l : List Con) (hok : ∀ c ∈ l, U64 c.b) (op : Int) (mod name : Bs) (vt vb : Int) (k : Exs) (ih : AllV l k) : VlX l ⟨8, op, mod, name, vt, vb⟩ k := by
  intro ao cap la lc w ho hx he hel hk hl
  have f0 : Fr FN w ((w.alloc (exO ⟨8, op, mod, name, vt, vb⟩ (.slice ao k.len cap))).alloc zo) := (Fr.alloc _ _ _).same (Fr.alloc _ _ _)
  have hA : Hidden (((w.alloc (exO ⟨8, op, mod, name, vt, vb⟩ (.slice ao k.len cap))).alloc zo).heap[w.heap.size]? = some (exO ⟨8, op, mod, name, vt, vb⟩ (.slice ao k.len cap))) := (alloc_old _ _ _ (by simp)).trans (alloc_new _ _)
  have hC : Hidden (((w.alloc (exO ⟨8, op, mod, name, vt, vb⟩ (.slice ao k.len cap))).alloc zo).heap[w.heap.size + 1]? = some zo) := alloc_at _ _ _ (by simp)
  rw [show evX l ⟨8, op, mod, name, vt, vb⟩ k = callF (evF l k) from rfl]
  obtain ⟨W0, hW0⟩ : ∃ W, W = ((w.alloc (exO ⟨8, op, mod, name, vt, vb⟩ (.slice ao k.len cap))).alloc zo) := ⟨_, rfl⟩
  rw [← hW0] at f0 hA hC
  have hW0H : Hidden (W0 = _) := hW0
  have hrest := (hk.keep f0).rest
  obtain ⟨hcap, hmax, _⟩ := hk
  have hlen : k.len ≤ 9223372036854775807 := by unfold maxLen at hmax; omega
  have hlW : Hidden (CoL W0 la lc l) := hl.keep f0
  have f0H : Hidden (Fr FN w W0) := f0
  obtain ⟨a0, a1, a2, a3, a4, a5, a6⟩ := ex_box hA
  clear hl hW0 he ho f0
  go_enter Tryz.func114, Tryz.ntmps114
  go_wp2_with fail
  rw [← (show W0 = _ from hW0H)]
  go_loopg [25] k.len (fun g iv wr => ∃ (i : Nat) (r : Exs), iv = ci (i : Int) ∧ i + r.len = k.len ∧ AllV l r ∧ OkX r ∧ errL rnS cnS r = 0 ∧ ExR W0 ao i r ∧ callF (evF l k) = callF (evF l r) ∧ g = r.len ∧ Fr FN W0 wr)
  case atStart => exact ⟨0, k, rfl, by omega, ih, hx, hel, hrest, rfl, rfl, Fr.refl _ _⟩
  case round =>
    obtain ⟨i, r, rfl, hlen2, hih, hxr, herr, hrow, hdk, hgk, hfr⟩ := hrel
    have hgkH : Hidden (gk = r.len) := hgk
    have hdkH : Hidden (callF (evF l k) = callF (evF l r)) := hdk
    have hlenH : Hidden (i + r.len = k.len) := hlen2
    clear hgk hdk hlen2 hrest ih hx hel
    cases r with
    | nil =>
      have hi : i = k.len := hlenH
      subst hi
      have hres : Hidden (callF (evF l k) = .flt 25) := hdkH
      go_wp2_with fail
      exact ⟨rfl, by rw [show callF (evF l k) = .flt 25 from hres]; rfl, (show Fr FN w W0 from f0H).same hfr⟩
    | cons h' k' r' =>
      have hil : i < k.len := by have : i + (r'.len + 1) = k.len := hlenH; omega
      obtain ⟨b, off, ao', cap', rfl, hL, hrow2, d0, d1, d2, d3, d4, d5, d6⟩ := hrow.next
      have d0 := hfr.cellN d0
      have d1 := hfr.cellN d1
      have d2 := hfr.cellN d2
      have d3 := hfr.cellN d3
      have d4 := hfr.cellN d4
      have d5 := hfr.cellN d5
      have d6 := hfr.cellN d6
      have f2 := hfr.same (Fr.alloc FN wr (exO h' (.slice ao' k'.len cap')))
      have he2 := orE0 (show orE (orE (errH rnS cnS h' k'.len) (errL rnS cnS k')) (errL rnS cnS r') = 0 from herr)
      have kc := hih.1 ao' cap' la lc _ hxr.1 hxr.2.1 (orE0 he2.1).1 (orE0 he2.1).2 (hL.keep f2) ((show CoL W0 la lc l from hlW).keep f2)
      have hev : Hidden (callF (evF l k) = (evX l h' k').bd fun _ => callF (evF l r')) := hdkH
      have hih2 := hih.2
      have herr2 : Hidden (errL rnS cnS r' = 0) := he2.2
      have hxr2 := hxr.2.2
      clear hih herr he2 hxr hdkH hL
      generalize evX l h' k' = E at kc hev
      rcases E with v | c | c
      · rw [fin_ok] at kc
        go_wp2_with fail
        go_at_call 114
        refine kc.mono ?_
        rintro e W3 ⟨rfl, f3⟩
        go_wp2_with fail
        go_roundg r'.len
        case measure =>
          have : gk = r'.len + 1 := hgkH
          omega
        case rel =>
          refine ⟨i + 1, r', by go_num, ?_, hih2, hxr2, herr2, hrow2, hev, rfl, f2.same f3⟩
          have : i + (r'.len + 1) = k.len := hlenH
          omega
      · rw [fin_flt] at kc
        go_wp2_with fail
        go_at_call 114
        refine kc.mono ?_
        rintro e W3 ⟨rfl, f3⟩
        go_wp2_with fail
        exact ⟨rfl, by rw [show callF (evF l k) = _ from hev]; rfl, (show Fr FN w W0 from f0H).same (f2.same f3)⟩
      · rw [fin_trp] at kc
        go_wp2_with fail
        go_at_call 114
        refine kc.mono ?_
        rintro e W3 ⟨rfl, f3⟩
        go_wp2_with fail
        exact ⟨rfl, by rw [show callF (evF l k) = _ from hev]; rfl, (show Fr FN w W0 from f0H).same (f2.same f3)⟩
set_option maxRecDepth 20000 in
set_option maxHeartbeats 4000000 in
theorem val_6 (l : List Con) (hok : ∀ c ∈ l, U64 c.b) (op : Int) (mod name : Bs) (vt vb : Int) (k : Exs) (ih : AllV l k) (hn : k.len = 1) : VlX l ⟨6, op, mod, name, vt, vb⟩ k := by
  intro ao cap la lc w ho hx he hel hk hl
  have f0 : Fr FN w ((w.alloc (exO ⟨6, op, mod, name, vt, vb⟩ (.slice ao k.len cap))).alloc zo) := (Fr.alloc _ _ _).same (Fr.alloc _ _ _)
  have hA : Hidden (((w.alloc (exO ⟨6, op, mod, name, vt, vb⟩ (.slice ao k.len cap))).alloc zo).heap[w.heap.size]? = some (exO ⟨6, op, mod, name, vt, vb⟩ (.slice ao k.len cap))) := (alloc_old _ _ _ (by simp)).trans (alloc_new _ _)
  have hC : Hidden (((w.alloc (exO ⟨6, op, mod, name, vt, vb⟩ (.slice ao k.len cap))).alloc zo).heap[w.heap.size + 1]? = some zo) := alloc_at _ _ _ (by simp)
  obtain ⟨W0, hW0⟩ : ∃ W, W = ((w.alloc (exO ⟨6, op, mod, name, vt, vb⟩ (.slice ao k.len cap))).alloc zo) := ⟨_, rfl⟩
  rw [← hW0] at f0 hA hC
  rcases k with _ | ⟨h1, k1, r1⟩
  · cases hn
  obtain rfl : r1 = .nil := by cases r1 with
    | nil => rfl
    | cons _ _ _ => simp [Exs.len] at hn
  have hrest := hk.rest
  obtain ⟨hcap, hmax, _⟩ := hk
  obtain ⟨kb, ko, ao1, cap1, rfl, hL, _, d0, d1, d2, d3, d4, d5, d6⟩ := hrest.next
  have hkb : kb < w.heap.size := cell_lt d0
  have hne1 : ¬ (kb = w.heap.size + 1) := by omega
  have hne2 : ¬ (w.heap.size + 1 = kb) := by omega
  replace hL := hL.keep f0
  replace d0 := f0.cellN d0
  replace d1 := f0.cellN d1
  replace d2 := f0.cellN d2
  replace d3 := f0.cellN d3
  replace d4 := f0.cellN d4
  replace d5 := f0.cellN d5
  replace d6 := f0.cellN d6
  rw [show ko + 0 * 7 = ko by omega] at d0 d1 d2 d3 d4 d5 d6
  have hcap1 : 1 ≤ cap := hcap
  have hmax1 : cap ≤ 9223372036854775807 := by unfold maxLen at hmax; omega
  change Calls _ _ #[exV ⟨6, op, mod, name, vt, vb⟩ (.slice (some ⟨kb, ko, none⟩) 1 cap), _] _ _
  have he2 := orE0 (show orE (orE (errH rnS cnS h1 k1.len) (errL rnS cnS k1)) (errL rnS cnS .nil) = 0 from hel)
  have hW0H : Hidden (W0 = ((w.alloc (exO ⟨6, op, mod, name, vt, vb⟩ (.slice (some ⟨kb, ko, none⟩) 1 cap))).alloc zo)) := hW0
  clear hW0
  have fd := f0.same (Fr.drew FN W0)
  have k2 := ih.1 ao1 cap1 la lc _ hx.1 hx.2.1 (orE0 he2.1).1 (orE0 he2.1).2 (hL.keep (Fr.drew FN W0)) (hl.keep fd)
  have hU := evX_U l hok h1 hx.1 k1 hx.2.1
  rw [show evX l ⟨6, op, mod, name, vt, vb⟩ (.cons h1 k1 .nil) = (evX l h1 k1).bd fun v => trapEv (unF op v) from rfl]
  obtain ⟨a0, a1, a2, a3, a4, a5, a6⟩ := ex_box hA
  generalize evX l h1 k1 = E at k2 hU ⊢
  clear ih he hel he2 hL hl ho hx hcap hmax hkb
  rcases E with v | c | c
  rotate_left
  · rw [show (Ev.flt c).bd (fun v => trapEv (unF op v)) = .flt c from rfl, fin_flt]
    rw [fin_flt] at k2
    clear hU
    have fw : Hidden (Fr FN w W0) := f0
    have qc := hC
    have x0 := a1
    have x1 := a6
    have x2 := d0
    have x3 := d1
    have x4 := d2
    have x5 := d3
    have x6 := d4
    have x7 := d5
    have x8 := d6
    clear hA f0 fd
    go_enter Tryz.func114, Tryz.ntmps114
    go_wp2_with fail
    rw [← (show W0 = _ from hW0H)]
    go_region_held (fun w' => w'.cell? ⟨w.heap.size, 1, none⟩ = some (ci op) ∧ w'.cell? ⟨w.heap.size, 6, none⟩ = some (.slice (some ⟨kb, ko, none⟩) 1 cap) ∧ w'.cell? ⟨kb, ko, none⟩ = some (ci h1.kind) ∧ w'.cell? ⟨kb, ko + 1, none⟩ = some (ci h1.op) ∧ w'.cell? ⟨kb, ko + 2, none⟩ = some (ct h1.mod) ∧ w'.cell? ⟨kb, ko + 3, none⟩ = some (ct h1.name) ∧ w'.cell? ⟨kb, ko + 4, none⟩ = some (ci h1.vt) ∧ w'.cell? ⟨kb, ko + 5, none⟩ = some (.int .u64 h1.vb) ∧ w'.cell? ⟨kb, ko + 6, none⟩ = some (.slice ao1 k1.len cap1)) (first | (revert hF; intro hF; exact (show False from hF).elim) | (refine ⟨by with_reducible assumption, by with_reducible assumption, by with_reducible assumption, by with_reducible assumption, by with_reducible assumption, by with_reducible assumption, by with_reducible assumption, by with_reducible assumption, by with_reducible assumption⟩) | go_keep) (first
      | (go_at_call 114; refine (dead k2 (.agg #[.int .i64 0, .int .u64 0])).mono ?_; rintro e w3 (⟨rfl, f3⟩ | ⟨hF, rfl⟩); (focus (exact ⟨rfl, rfl, (show Fr FN w W0 from fw).same ((Fr.drew FN _).same f3)⟩)))
      | (go_at_call 138; refine (dead2 hF (.tuple #[.agg #[.int .i64 0, .int .u64 0], .int .i64 0])).mono ?_; rintro e w4 rfl)
      | (go_at_call 137; refine (dead2 hF (.agg #[.int .i64 0, .int .u64 0])).mono ?_; rintro e w5 rfl; have c0 : w5.cell? ⟨w.heap.size + 1, 0, none⟩ = some (ci 0) := (show False from hF).elim; have c1 : w5.cell? ⟨w.heap.size + 1, 1, none⟩ = some (.int .u64 0) := (show False from hF).elim; have z0 : w5.frozen? ⟨w.heap.size + 1, 0, none⟩ = false := (show False from hF).elim; have z1 : w5.frozen? ⟨w.heap.size + 1, 1, none⟩ = false := (show False from hF).elim)
      )
    all_goals exact (show False from hF).elim
  · rw [show (Ev.trp c).bd (fun v => trapEv (unF op v)) = .trp c from rfl, fin_trp]
    rw [fin_trp] at k2
    clear hU
    have fw : Hidden (Fr FN w W0) := f0
    have qc := hC
    have x0 := a1
    have x1 := a6
    have x2 := d0
    have x3 := d1
    have x4 := d2
    have x5 := d3
    have x6 := d4
    have x7 := d5
    have x8 := d6
    clear hA f0 fd
    go_enter Tryz.func114, Tryz.ntmps114
    go_wp2_with fail
    rw [← (show W0 = _ from hW0H)]
    go_region_held (fun w' => w'.cell? ⟨w.heap.size, 1, none⟩ = some (ci op) ∧ w'.cell? ⟨w.heap.size, 6, none⟩ = some (.slice (some ⟨kb, ko, none⟩) 1 cap) ∧ w'.cell? ⟨kb, ko, none⟩ = some (ci h1.kind) ∧ w'.cell? ⟨kb, ko + 1, none⟩ = some (ci h1.op) ∧ w'.cell? ⟨kb, ko + 2, none⟩ = some (ct h1.mod) ∧ w'.cell? ⟨kb, ko + 3, none⟩ = some (ct h1.name) ∧ w'.cell? ⟨kb, ko + 4, none⟩ = some (ci h1.vt) ∧ w'.cell? ⟨kb, ko + 5, none⟩ = some (.int .u64 h1.vb) ∧ w'.cell? ⟨kb, ko + 6, none⟩ = some (.slice ao1 k1.len cap1)) (first | (revert hF; intro hF; exact (show False from hF).elim) | (refine ⟨by with_reducible assumption, by with_reducible assumption, by with_reducible assumption, by with_reducible assumption, by with_reducible assumption, by with_reducible assumption, by with_reducible assumption, by with_reducible assumption, by with_reducible assumption⟩) | go_keep) (first
      | (go_at_call 114; refine (dead k2 (.agg #[.int .i64 0, .int .u64 0])).mono ?_; rintro e w3 (⟨rfl, f3⟩ | ⟨hF, rfl⟩); (focus (exact ⟨rfl, rfl, (show Fr FN w W0 from fw).same ((Fr.drew FN _).same f3)⟩)))
      | (go_at_call 138; refine (dead2 hF (.tuple #[.agg #[.int .i64 0, .int .u64 0], .int .i64 0])).mono ?_; rintro e w4 rfl)
      | (go_at_call 137; refine (dead2 hF (.agg #[.int .i64 0, .int .u64 0])).mono ?_; rintro e w5 rfl; have c0 : w5.cell? ⟨w.heap.size + 1, 0, none⟩ = some (ci 0) := (show False from hF).elim; have c1 : w5.cell? ⟨w.heap.size + 1, 1, none⟩ = some (.int .u64 0) := (show False from hF).elim; have z0 : w5.frozen? ⟨w.heap.size + 1, 0, none⟩ = false := (show False from hF).elim; have z1 : w5.frozen? ⟨w.heap.size + 1, 1, none⟩ = false := (show False from hF).elim)
      )
    all_goals exact (show False from hF).elim
  obtain ⟨t, b⟩ := v
  have hb := hU _ rfl
  dsimp only at hb
  rw [show (Ev.ok (t, b)).bd (fun v => trapEv (unF op v)) = trapEv (unF op (t, b)) from rfl]
  have kb_ := un_any op (t, b) hb
  rw [fin_ok] at k2
  generalize unF op (t, b) = Z at kb_ ⊢
  obtain ⟨⟨rt, rb⟩, q⟩ := Z
  dsimp only [vv] at kb_ k2
  have ku := untrapped_any (rt, rb) q
  clear hU hb
  by_cases hq : q = 0
  · subst hq
    rw [trapEv_0, fin_ok] at ku ⊢
    dsimp only [vv] at ku ⊢
    have fw : Hidden (Fr FN w W0) := f0
    have qc := hC
    have x0 := a1
    have x1 := a6
    have x2 := d0
    have x3 := d1
    have x4 := d2
    have x5 := d3
    have x6 := d4
    have x7 := d5
    have x8 := d6
    clear hA f0 fd
    go_enter Tryz.func114, Tryz.ntmps114
    go_wp2_with fail
    rw [← (show W0 = _ from hW0H)]
    go_region_held3 (fun w' => w'.cell? ⟨w.heap.size, 1, none⟩ = some (ci op) ∧ w'.cell? ⟨w.heap.size, 6, none⟩ = some (.slice (some ⟨kb, ko, none⟩) 1 cap) ∧ w'.cell? ⟨kb, ko, none⟩ = some (ci h1.kind) ∧ w'.cell? ⟨kb, ko + 1, none⟩ = some (ci h1.op) ∧ w'.cell? ⟨kb, ko + 2, none⟩ = some (ct h1.mod) ∧ w'.cell? ⟨kb, ko + 3, none⟩ = some (ct h1.name) ∧ w'.cell? ⟨kb, ko + 4, none⟩ = some (ci h1.vt) ∧ w'.cell? ⟨kb, ko + 5, none⟩ = some (.int .u64 h1.vb) ∧ w'.cell? ⟨kb, ko + 6, none⟩ = some (.slice ao1 k1.len cap1)) (first | (revert hF; intro hF; exact (show False from hF).elim) | (refine ⟨by with_reducible assumption, by with_reducible assumption, by with_reducible assumption, by with_reducible assumption, by with_reducible assumption, by with_reducible assumption, by with_reducible assumption, by with_reducible assumption, by with_reducible assumption⟩) | go_keep) (first
      | (go_at_call 114; refine k2.mono ?_; rintro e w3 ⟨rfl, f3⟩; have g3 := (Fr.drew FN W0).same f3; have e0 := g3.cellN x0; have e1 := g3.cellN x1; have e2 := g3.cellN x2; have e3 := g3.cellN x3; have e4 := g3.cellN x4; have e5 := g3.cellN x5; have e6 := g3.cellN x6; have e7 := g3.cellN x7; have e8 := g3.cellN x8; clear f3)
      | (go_at_call 138; refine (kb_ _).mono ?_; rintro e w4 ⟨rfl, f4⟩; have g4 := g3.same f4; have h0 := g4.cellN x0; have h1 := g4.cellN x1; have h2 := g4.cellN x2; have h3 := g4.cellN x3; have h4 := g4.cellN x4; have h5 := g4.cellN x5; have h6 := g4.cellN x6; have h7 := g4.cellN x7; have h8 := g4.cellN x8; clear f4)
      | (go_at_call 137; refine (ku _).mono ?_; rintro e w5 ⟨rfl, f5⟩; have g5 := g4.same f5; have m0 := g5.cellN x0; have m1 := g5.cellN x1; have m2 := g5.cellN x2; have m3 := g5.cellN x3; have m4 := g5.cellN x4; have m5 := g5.cellN x5; have m6 := g5.cellN x6; have m7 := g5.cellN x7; have m8 := g5.cellN x8; clear f5; have q5 := g5.heap qc (fun f => f); obtain ⟨c0, c1, z0, z1⟩ := box2 q5)
      )
    all_goals (go_wp2_with fail)
    all_goals exact post_v1 (set_two q5 _ _) rfl rfl rfl ⟨rfl, fr_two ((show Fr FN w W0 from fw).same g5) (by omega) _ _⟩
  · rw [trapEv_ne _ hq, fin_trp] at ku ⊢
    dsimp only [vv] at ku ⊢
    clear hq
    have fw : Hidden (Fr FN w W0) := f0
    have qc := hC
    have x0 := a1
    have x1 := a6
    have x2 := d0
    have x3 := d1
    have x4 := d2
    have x5 := d3
    have x6 := d4
    have x7 := d5
    have x8 := d6
    clear hA f0 fd
    go_enter Tryz.func114, Tryz.ntmps114
    go_wp2_with fail
    rw [← (show W0 = _ from hW0H)]
    go_region_held (fun w' => w'.cell? ⟨w.heap.size, 1, none⟩ = some (ci op) ∧ w'.cell? ⟨w.heap.size, 6, none⟩ = some (.slice (some ⟨kb, ko, none⟩) 1 cap) ∧ w'.cell? ⟨kb, ko, none⟩ = some (ci h1.kind) ∧ w'.cell? ⟨kb, ko + 1, none⟩ = some (ci h1.op) ∧ w'.cell? ⟨kb, ko + 2, none⟩ = some (ct h1.mod) ∧ w'.cell? ⟨kb, ko + 3, none⟩ = some (ct h1.name) ∧ w'.cell? ⟨kb, ko + 4, none⟩ = some (ci h1.vt) ∧ w'.cell? ⟨kb, ko + 5, none⟩ = some (.int .u64 h1.vb) ∧ w'.cell? ⟨kb, ko + 6, none⟩ = some (.slice ao1 k1.len cap1)) (first | (revert hF; intro hF; exact (show False from hF).elim) | (refine ⟨by with_reducible assumption, by with_reducible assumption, by with_reducible assumption, by with_reducible assumption, by with_reducible assumption, by with_reducible assumption, by with_reducible assumption, by with_reducible assumption, by with_reducible assumption⟩) | go_keep) (first
      | (go_at_call 114; refine k2.mono ?_; rintro e w3 ⟨rfl, f3⟩; have g3 := (Fr.drew FN W0).same f3; have e0 := g3.cellN x0; have e1 := g3.cellN x1; have e2 := g3.cellN x2; have e3 := g3.cellN x3; have e4 := g3.cellN x4; have e5 := g3.cellN x5; have e6 := g3.cellN x6; have e7 := g3.cellN x7; have e8 := g3.cellN x8; clear f3)
      | (go_at_call 138; refine (kb_ _).mono ?_; rintro e w4 ⟨rfl, f4⟩; have g4 := g3.same f4; have h0 := g4.cellN x0; have h1 := g4.cellN x1; have h2 := g4.cellN x2; have h3 := g4.cellN x3; have h4 := g4.cellN x4; have h5 := g4.cellN x5; have h6 := g4.cellN x6; have h7 := g4.cellN x7; have h8 := g4.cellN x8; clear f4)
      | (go_at_call 137; refine (dead (ku _) (.agg #[.int .i64 0, .int .u64 0])).mono ?_; rintro e w5 (⟨rfl, f5⟩ | ⟨hF, rfl⟩); (focus (exact ⟨rfl, rfl, (show Fr FN w W0 from fw).same (g4.same f5)⟩)); have c0 : w5.cell? ⟨w.heap.size + 1, 0, none⟩ = some (ci 0) := (show False from hF).elim; have c1 : w5.cell? ⟨w.heap.size + 1, 1, none⟩ = some (.int .u64 0) := (show False from hF).elim; have z0 : w5.frozen? ⟨w.heap.size + 1, 0, none⟩ = false := (show False from hF).elim; have z1 : w5.frozen? ⟨w.heap.size + 1, 1, none⟩ = false := (show False from hF).elim)
      )
    all_goals exact (show False from hF).elim
set_option maxRecDepth 20000 in
set_option maxHeartbeats 4000000 in
theorem val_7 (l : List Con) (hok : ∀ c ∈ l, U64 c.b) (op : Int) (mod name : Bs) (vt vb : Int) (k : Exs) (ih : AllV l k) (hn : k.len = 2) : VlX l ⟨7, op, mod, name, vt, vb⟩ k := by
  intro ao cap la lc w ho hx he hel hk hl
  have f0 : Fr FN w ((w.alloc (exO ⟨7, op, mod, name, vt, vb⟩ (.slice ao k.len cap))).alloc zo) := (Fr.alloc _ _ _).same (Fr.alloc _ _ _)
  have hA : Hidden (((w.alloc (exO ⟨7, op, mod, name, vt, vb⟩ (.slice ao k.len cap))).alloc zo).heap[w.heap.size]? = some (exO ⟨7, op, mod, name, vt, vb⟩ (.slice ao k.len cap))) := (alloc_old _ _ _ (by simp)).trans (alloc_new _ _)
  have hC : Hidden (((w.alloc (exO ⟨7, op, mod, name, vt, vb⟩ (.slice ao k.len cap))).alloc zo).heap[w.heap.size + 1]? = some zo) := alloc_at _ _ _ (by simp)
  obtain ⟨W0, hW0⟩ : ∃ W, W = ((w.alloc (exO ⟨7, op, mod, name, vt, vb⟩ (.slice ao k.len cap))).alloc zo) := ⟨_, rfl⟩
  rw [← hW0] at f0 hA hC
  rcases k with _ | ⟨h1, k1, r1⟩
  · cases hn
  rcases r1 with _ | ⟨h2, k2, r2⟩
  · cases hn
  obtain rfl : r2 = .nil := by cases r2 with
    | nil => rfl
    | cons _ _ _ => simp [Exs.len] at hn
  have hrest := hk.rest
  obtain ⟨hcap, hmax, _⟩ := hk
  obtain ⟨kb, ko, ao1, cap1, rfl, hL, hr2, d0, d1, d2, d3, d4, d5, d6⟩ := hrest.next
  obtain ⟨kb2, ko2, ao2, cap2, hkk, hL2, _, g0, g1, g2, g3, g4, g5, g6⟩ := hr2.next
  cases hkk
  have hkb : kb < w.heap.size := cell_lt d0
  have hne1 : ¬ (kb = w.heap.size + 1) := by omega
  have hne2 : ¬ (w.heap.size + 1 = kb) := by omega
  replace hL := hL.keep f0
  replace hL2 := hL2.keep f0
  replace d0 := f0.cellN d0
  replace d1 := f0.cellN d1
  replace d2 := f0.cellN d2
  replace d3 := f0.cellN d3
  replace d4 := f0.cellN d4
  replace d5 := f0.cellN d5
  replace d6 := f0.cellN d6
  replace g0 := f0.cellN g0
  replace g1 := f0.cellN g1
  replace g2 := f0.cellN g2
  replace g3 := f0.cellN g3
  replace g4 := f0.cellN g4
  replace g5 := f0.cellN g5
  replace g6 := f0.cellN g6
  rw [show ko + 0 * 7 = ko by omega] at d0 d1 d2 d3 d4 d5 d6
  rw [show ko + (0 + 1) * 7 = ko + 7 by omega] at g0 g1 g2 g3 g4 g5 g6
  have hcap1 : 2 ≤ cap := hcap
  have hmax1 : cap ≤ 9223372036854775807 := by unfold maxLen at hmax; omega
  change Calls _ _ #[exV ⟨7, op, mod, name, vt, vb⟩ (.slice (some ⟨kb, ko, none⟩) 2 cap), _] _ _
  have he2 := orE0 (show orE (orE (errH rnS cnS h1 k1.len) (errL rnS cnS k1)) (errL rnS cnS (.cons h2 k2 .nil)) = 0 from hel)
  have he3 := orE0 (show orE (orE (errH rnS cnS h2 k2.len) (errL rnS cnS k2)) (errL rnS cnS .nil) = 0 from he2.2)
  have kt := ofTwo_any op h1 h2 (.slice ao1 k1.len cap1) (.slice ao2 k2.len cap2) (.slice la l.length lc) (evX l h1 k1) (evX l h2 k2) (World.drew W0)
    (fun w' f => ih.1 ao1 cap1 la lc w' hx.1 hx.2.1 (orE0 he2.1).1 (orE0 he2.1).2 (hL.keep ((Fr.drew FN _).same f)) (hl.keep ((f0.same (Fr.drew FN _)).same f)))
    (fun w' f => ih.2.1 ao2 cap2 la lc w' hx.2.2.1 hx.2.2.2.1 (orE0 he3.1).1 (orE0 he3.1).2 (hL2.keep ((Fr.drew FN _).same f)) (hl.keep ((f0.same (Fr.drew FN _)).same f)))
    (evX_U l hok h1 hx.1 k1 hx.2.1) (evX_U l hok h2 hx.2.2.1 k2 hx.2.2.2.1)
  rw [show evX l ⟨7, op, mod, name, vt, vb⟩ (.cons h1 k1 (.cons h2 k2 .nil)) = twoF op (evX l h1 k1) (evX l h2 k2) from rfl]
  obtain ⟨a0, a1, a2, a3, a4, a5, a6⟩ := ex_box hA
  generalize twoF op (evX l h1 k1) (evX l h2 k2) = E at kt ⊢
  have hW0H : Hidden (W0 = ((w.alloc (exO ⟨7, op, mod, name, vt, vb⟩ (.slice (some ⟨kb, ko, none⟩) 2 cap))).alloc zo)) := hW0
  have f0H : Hidden (Fr FN w W0) := f0
  clear hW0 f0
  clear ih he hel he2 he3 hL hL2 hl ho hx hcap hmax hr2 hA hkb
  rcases E with v | c | c
  · obtain ⟨t, b⟩ := v
    rw [fin_ok] at kt ⊢
    dsimp only [vv] at kt ⊢
    have x0 := a1
    have x1 := a6
    have x2 := d0
    have x3 := d1
    have x4 := d2
    have x5 := d3
    have x6 := d4
    have x7 := d5
    have x8 := d6
    have x9 := g0
    have x10 := g1
    have x11 := g2
    have x12 := g3
    have x13 := g4
    have x14 := g5
    have x15 := g6
    go_enter Tryz.func114, Tryz.ntmps114
    go_wp2_with fail
    rw [← (show W0 = _ from hW0H)]
    go_region_held3 (fun w' => w'.cell? ⟨w.heap.size, 1, none⟩ = some (ci op) ∧ w'.cell? ⟨w.heap.size, 6, none⟩ = some (.slice (some ⟨kb, ko, none⟩) 2 cap) ∧ w'.cell? ⟨kb, ko, none⟩ = some (ci h1.kind) ∧ w'.cell? ⟨kb, ko + 1, none⟩ = some (ci h1.op) ∧ w'.cell? ⟨kb, ko + 2, none⟩ = some (ct h1.mod) ∧ w'.cell? ⟨kb, ko + 3, none⟩ = some (ct h1.name) ∧ w'.cell? ⟨kb, ko + 4, none⟩ = some (ci h1.vt) ∧ w'.cell? ⟨kb, ko + 5, none⟩ = some (.int .u64 h1.vb) ∧ w'.cell? ⟨kb, ko + 6, none⟩ = some (.slice ao1 k1.len cap1) ∧ w'.cell? ⟨kb, ko + 7, none⟩ = some (ci h2.kind) ∧ w'.cell? ⟨kb, ko + 7 + 1, none⟩ = some (ci h2.op) ∧ w'.cell? ⟨kb, ko + 7 + 2, none⟩ = some (ct h2.mod) ∧ w'.cell? ⟨kb, ko + 7 + 3, none⟩ = some (ct h2.name) ∧ w'.cell? ⟨kb, ko + 7 + 4, none⟩ = some (ci h2.vt) ∧ w'.cell? ⟨kb, ko + 7 + 5, none⟩ = some (.int .u64 h2.vb) ∧ w'.cell? ⟨kb, ko + 7 + 6, none⟩ = some (.slice ao2 k2.len cap2)) (first | (revert hF; intro hF; exact (show False from hF).elim) | (refine ⟨by with_reducible assumption, by with_reducible assumption, by with_reducible assumption, by with_reducible assumption, by with_reducible assumption, by with_reducible assumption, by with_reducible assumption, by with_reducible assumption, by with_reducible assumption, by with_reducible assumption, by with_reducible assumption, by with_reducible assumption, by with_reducible assumption, by with_reducible assumption, by with_reducible assumption, by with_reducible assumption⟩) | go_keep) (first
      | (go_at_call 139; refine kt.mono ?_; rintro e w5 ⟨rfl, f5⟩; have G5 := (Fr.drew FN W0).same f5; have m0 := G5.cellN x0; have m1 := G5.cellN x1; have m2 := G5.cellN x2; have m3 := G5.cellN x3; have m4 := G5.cellN x4; have m5 := G5.cellN x5; have m6 := G5.cellN x6; have m7 := G5.cellN x7; have m8 := G5.cellN x8; have m9 := G5.cellN x9; have m10 := G5.cellN x10; have m11 := G5.cellN x11; have m12 := G5.cellN x12; have m13 := G5.cellN x13; have m14 := G5.cellN x14; have m15 := G5.cellN x15; clear f5; have q5 := G5.heap hC (fun f => f); obtain ⟨c0, c1, z0, z1⟩ := box2 q5)
      )
    all_goals (go_wp2_with fail)
    all_goals exact post_v1 (set_two q5 _ _) rfl rfl rfl ⟨rfl, fr_two ((show Fr FN w W0 from f0H).same G5) (by omega) _ _⟩
  · rw [fin_flt] at kt ⊢
    have x0 := a1
    have x1 := a6
    have x2 := d0
    have x3 := d1
    have x4 := d2
    have x5 := d3
    have x6 := d4
    have x7 := d5
    have x8 := d6
    have x9 := g0
    have x10 := g1
    have x11 := g2
    have x12 := g3
    have x13 := g4
    have x14 := g5
    have x15 := g6
    go_enter Tryz.func114, Tryz.ntmps114
    go_wp2_with fail
    rw [← (show W0 = _ from hW0H)]
    go_region_held (fun w' => w'.cell? ⟨w.heap.size, 1, none⟩ = some (ci op) ∧ w'.cell? ⟨w.heap.size, 6, none⟩ = some (.slice (some ⟨kb, ko, none⟩) 2 cap) ∧ w'.cell? ⟨kb, ko, none⟩ = some (ci h1.kind) ∧ w'.cell? ⟨kb, ko + 1, none⟩ = some (ci h1.op) ∧ w'.cell? ⟨kb, ko + 2, none⟩ = some (ct h1.mod) ∧ w'.cell? ⟨kb, ko + 3, none⟩ = some (ct h1.name) ∧ w'.cell? ⟨kb, ko + 4, none⟩ = some (ci h1.vt) ∧ w'.cell? ⟨kb, ko + 5, none⟩ = some (.int .u64 h1.vb) ∧ w'.cell? ⟨kb, ko + 6, none⟩ = some (.slice ao1 k1.len cap1) ∧ w'.cell? ⟨kb, ko + 7, none⟩ = some (ci h2.kind) ∧ w'.cell? ⟨kb, ko + 7 + 1, none⟩ = some (ci h2.op) ∧ w'.cell? ⟨kb, ko + 7 + 2, none⟩ = some (ct h2.mod) ∧ w'.cell? ⟨kb, ko + 7 + 3, none⟩ = some (ct h2.name) ∧ w'.cell? ⟨kb, ko + 7 + 4, none⟩ = some (ci h2.vt) ∧ w'.cell? ⟨kb, ko + 7 + 5, none⟩ = some (.int .u64 h2.vb) ∧ w'.cell? ⟨kb, ko + 7 + 6, none⟩ = some (.slice ao2 k2.len cap2)) (first | (revert hF; intro hF; exact (show False from hF).elim) | (refine ⟨by with_reducible assumption, by with_reducible assumption, by with_reducible assumption, by with_reducible assumption, by with_reducible assumption, by with_reducible assumption, by with_reducible assumption, by with_reducible assumption, by with_reducible assumption, by with_reducible assumption, by with_reducible assumption, by with_reducible assumption, by with_reducible assumption, by with_reducible assumption, by with_reducible assumption, by with_reducible assumption⟩) | go_keep) (first
      | (go_at_call 139; refine (dead kt (.agg #[.int .i64 0, .int .u64 0])).mono ?_; rintro e w5 (⟨rfl, f5⟩ | ⟨hF, rfl⟩); (focus (exact ⟨rfl, rfl, (show Fr FN w W0 from f0H).same ((Fr.drew FN _).same f5)⟩)); have c0 : w5.cell? ⟨w.heap.size + 1, 0, none⟩ = some (ci 0) := (show False from hF).elim; have c1 : w5.cell? ⟨w.heap.size + 1, 1, none⟩ = some (.int .u64 0) := (show False from hF).elim; have z0 : w5.frozen? ⟨w.heap.size + 1, 0, none⟩ = false := (show False from hF).elim; have z1 : w5.frozen? ⟨w.heap.size + 1, 1, none⟩ = false := (show False from hF).elim)
      )
    all_goals exact (show False from hF).elim
  · rw [fin_trp] at kt ⊢
    have x0 := a1
    have x1 := a6
    have x2 := d0
    have x3 := d1
    have x4 := d2
    have x5 := d3
    have x6 := d4
    have x7 := d5
    have x8 := d6
    have x9 := g0
    have x10 := g1
    have x11 := g2
    have x12 := g3
    have x13 := g4
    have x14 := g5
    have x15 := g6
    go_enter Tryz.func114, Tryz.ntmps114
    go_wp2_with fail
    rw [← (show W0 = _ from hW0H)]
    go_region_held (fun w' => w'.cell? ⟨w.heap.size, 1, none⟩ = some (ci op) ∧ w'.cell? ⟨w.heap.size, 6, none⟩ = some (.slice (some ⟨kb, ko, none⟩) 2 cap) ∧ w'.cell? ⟨kb, ko, none⟩ = some (ci h1.kind) ∧ w'.cell? ⟨kb, ko + 1, none⟩ = some (ci h1.op) ∧ w'.cell? ⟨kb, ko + 2, none⟩ = some (ct h1.mod) ∧ w'.cell? ⟨kb, ko + 3, none⟩ = some (ct h1.name) ∧ w'.cell? ⟨kb, ko + 4, none⟩ = some (ci h1.vt) ∧ w'.cell? ⟨kb, ko + 5, none⟩ = some (.int .u64 h1.vb) ∧ w'.cell? ⟨kb, ko + 6, none⟩ = some (.slice ao1 k1.len cap1) ∧ w'.cell? ⟨kb, ko + 7, none⟩ = some (ci h2.kind) ∧ w'.cell? ⟨kb, ko + 7 + 1, none⟩ = some (ci h2.op) ∧ w'.cell? ⟨kb, ko + 7 + 2, none⟩ = some (ct h2.mod) ∧ w'.cell? ⟨kb, ko + 7 + 3, none⟩ = some (ct h2.name) ∧ w'.cell? ⟨kb, ko + 7 + 4, none⟩ = some (ci h2.vt) ∧ w'.cell? ⟨kb, ko + 7 + 5, none⟩ = some (.int .u64 h2.vb) ∧ w'.cell? ⟨kb, ko + 7 + 6, none⟩ = some (.slice ao2 k2.len cap2)) (first | (revert hF; intro hF; exact (show False from hF).elim) | (refine ⟨by with_reducible assumption, by with_reducible assumption, by with_reducible assumption, by with_reducible assumption, by with_reducible assumption, by with_reducible assumption, by with_reducible assumption, by with_reducible assumption, by with_reducible assumption, by with_reducible assumption, by with_reducible assumption, by with_reducible assumption, by with_reducible assumption, by with_reducible assumption, by with_reducible assumption, by with_reducible assumption⟩) | go_keep) (first
      | (go_at_call 139; refine (dead kt (.agg #[.int .i64 0, .int .u64 0])).mono ?_; rintro e w5 (⟨rfl, f5⟩ | ⟨hF, rfl⟩); (focus (exact ⟨rfl, rfl, (show Fr FN w W0 from f0H).same ((Fr.drew FN _).same f5)⟩)); have c0 : w5.cell? ⟨w.heap.size + 1, 0, none⟩ = some (ci 0) := (show False from hF).elim; have c1 : w5.cell? ⟨w.heap.size + 1, 1, none⟩ = some (.int .u64 0) := (show False from hF).elim; have z0 : w5.frozen? ⟨w.heap.size + 1, 0, none⟩ = false := (show False from hF).elim; have z1 : w5.frozen? ⟨w.heap.size + 1, 1, none⟩ = false := (show False from hF).elim)
      )
    all_goals exact (show False from hF).elim
theorem val_step (l : List Con) (hok : ∀ c ∈ l, U64 c.b) (h : EH) (k : Exs) (ih : AllV l k) : VlX l h k := by
  intro ao cap la lc w ho hx he hel hk hl
  have hf : fitsE cnS h k.len = true := by
    have := (orE0 he).1
    by_cases hf : fitsE cnS h k.len = true
    · exact hf
    · rw [if_neg hf] at this; cases this
  obtain ⟨kind, op, mod, name, vt, vb⟩ := h
  rcases fits_kind hf with e | e | e | e | e | ⟨e, hn⟩ | ⟨e, hn⟩ | e
  all_goals (have e' : kind = _ := e; subst e')
  · exact val_1 l hok op mod name vt vb k ih ao cap la lc w ho hx he hel hk hl
  · exact val_2 l hok op mod name vt vb k ih ao cap la lc w ho hx he hel hk hl
  · exact val_3 l hok op mod name vt vb k ih ao cap la lc w ho hx he hel hk hl
  · exact val_4 l hok op mod name vt vb k ih ao cap la lc w ho hx he hel hk hl
  · exact val_5 l hok op mod name vt vb k ih ao cap la lc w ho hx he hel hk hl
  · exact val_6 l hok op mod name vt vb k ih hn ao cap la lc w ho hx he hel hk hl
  · exact val_7 l hok op mod name vt vb k ih hn ao cap la lc w ho hx he hel hk hl
  · exact val_8 l hok op mod name vt vb k ih ao cap la lc w ho hx he hel hk hl
theorem allV (l : List Con) (hok : ∀ c ∈ l, U64 c.b) : ∀ k : Exs, AllV l k
  | .nil => trivial
  | .cons h k r => ⟨val_step l hok h k (allV l hok k), allV l hok r⟩
theorem value_any (l : List Con) (hok : ∀ c ∈ l, U64 c.b) (h : EH) (k : Exs) : VlX l h k := val_step l hok h k (allV l hok k)
end Go.Proofs.YtpjahcncknccdaaGreat.Fo
