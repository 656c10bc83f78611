/- Patch: the program's and the document's. -/
import Derived.Test.YticpiaonkgomfaaDoorCdAp
namespace Go.Proofs.YticpiaonkgomfaaDoor.Cd
open Go.RowKit Ty
set_option linter.unusedSimpArgs false
set_option linter.unusedVariables false

theorem own_at {w : World} {B : Nat} {e : TypeId} {size : Nat} {v : Value} {n : Nat} {cells : List Value} (h : w.ownsRow B e size v n cells) (j : Nat) (hj : j < cells.length) :
    ∃ g cap cur, v = .slice (some ⟨g, 0, none⟩) n cap ∧ B ≤ g ∧ n ≤ cap ∧ cap ≤ maxLen ∧ w.heap[g]? = some (.cells cur e (0, 0)) ∧ (∀ (i : Nat) (u : Value), cells[i]? = some u → w.cell? ⟨g, i, none⟩ = some u) ∧
      (∀ i, w.frozen? ⟨g, i, none⟩ = false) ∧ ∀ u, (w.setCell ⟨g, j, none⟩ u).ownsRow B e size v n (cells.set j u) := by
  obtain ⟨hl, hh⟩ := h
  rcases hh with ⟨rfl, rfl⟩ | ⟨g, cap, cur, rfl, hb, hg, hnc, hcm, hcs, ht⟩
  · rw [Nat.zero_mul] at hl; omega
  · refine ⟨g, cap, cur, rfl, hb, hnc, hcm, hg, fun i u hu => ?_, fun i => fz_row hg i, fun u => ⟨by rw [List.length_set]; exact hl, Or.inr ⟨g, cap, cur.setIfInBounds j u, rfl, hb, heap_setCell_same w g j cur e u hg, hnc, hcm, by simpa using hcs, ?_⟩⟩⟩
    · rw [cell_of_row w g _ cur e (0, 0) hg]
      rw [← ht, List.getElem?_take] at hu
      split at hu
      · simpa using hu
      · cases hu
    · rw [← ht]
      simp [List.take_set]
def patS (l : List In) (a n : Int) : Int × List In :=
  if a < 0 ∨ (l.length : Int) ≤ a then (1, []) else
    let x := l.getD a.toNat default
    if rightS { x with n := n } then (0, l.set a.toNat { x with n := n }) else (51, [])
theorem flat_set : ∀ (l : List In) (k : Nat) (x : In) (n : Int), l[k]? = some x → (l.flatMap inC).set (k * 4 + 1) (ci n) = (l.set k { x with n := n }).flatMap inC
  | [], k, x, n, h => by simp at h
  | y :: r, 0, x, n, h => by
    obtain rfl : y = x := by simpa using h
    rfl
  | y :: r, k + 1, x, n, h => by
    have ih := flat_set r k x n (by simpa using h)
    rw [List.set_cons_succ, List.flatMap_cons, List.flatMap_cons, ← ih]
    rw [show (k + 1) * 4 + 1 = (inC y).length + (k * 4 + 1) by rw [inC_len]; omega]
    rw [List.set_append_right _ _ (by omega)]
    congr 2
    omega
theorem IL.cells {w : World} {ao : Option Addr} {cap : Nat} {l : List In} (h : IL w ao cap l) : (ao = none → l.length = 0 ∧ cap = 0) ∧ ∀ ad, ao = some ad → ∀ (j : Nat) (u : Value), (l.flatMap inC)[j]? = some u → w.cell? (ad.add j) = some u := by
  obtain ⟨h1, h2, h3, h4⟩ := h
  refine ⟨fun e => ⟨by have := h3 e; omega, h3 e⟩, fun ad e j u hu => ?_⟩
  rcases h4 with rfl | ⟨b, off, e2, h4⟩
  · simp at hu
  · rw [e] at e2
    obtain rfl := Option.some.inj e2
    have hj : j < l.length * 4 := by
      have := (List.getElem?_eq_some_iff.1 hu).1
      rw [flat_len] at this
      exact this
    have hx : l[j / 4]? = some l[j / 4] := List.getElem?_eq_getElem (by omega)
    have hu2 : (inC l[j / 4])[j % 4]? = some u := by
      have h5 : j % 4 < (inC l[j / 4]).length := by rw [inC_len]; omega
      have := flat_get l (j / 4) _ hx (j % 4) _ (List.getElem?_eq_getElem h5)
      rw [show j / 4 * 4 + j % 4 = j by omega, hu] at this
      rw [List.getElem?_eq_getElem h5, ← this]
    have := h4 _ _ hx _ _ hu2
    rw [Addr.add_lit]
    rw [show off + j / 4 * 4 + j % 4 = off + j by omega] at this
    exact this
theorem flat_one (l : List In) : ∀ u ∈ l.flatMap inC, u.oneCell' = true := by
  intro u hu
  obtain ⟨x, _, hx⟩ := List.mem_flatMap.1 hu
  exact inC_one x u hx
set_option maxRecDepth 20000 in
set_option maxHeartbeats 4000000 in
theorem patch_any (ao : Option Addr) (m cap : Nat) (l : List In) (hm : l.length = m) (a n : Int) (w : World) (h : IL w ao cap l) (hok : ∀ i ∈ l, U64 i.b) (hb : m ≤ 4398046510976) :
    Calls Tryd.prog 19 #[.slice ao m cap, ci a, ci n] w fun e w' => ∃ v, e = .returned (.tuple #[v, ci (patS l a n).1]) ∧ IW w' w.heap.size 27 v (patS l a n).2 ∧ Fr (fun _ => False) w w' := by
  have hcells := h.cells
  rw [hm] at hcells
  have hcH : Hidden _ := hcells
  have hmH : Hidden (l.length = m) := hm
  obtain ⟨R, hR⟩ : ∃ R, R = patS l a n := ⟨_, rfl⟩
  rw [← hR]
  have hRH : Hidden (R = patS l a n) := hR
  clear hcells h hR
  by_cases h0 : a < 0
  · have e : R = (1, []) := by rw [show R = _ from hRH]; unfold patS; rw [if_pos (Or.inl h0)]
    have hb0 : decide (a < 0) = true := by simpa using h0
    clear h0 hm
    go_enter Tryd.func19, Tryd.ntmps19
    go_wp2_with fail
    go_ret2
    exact ⟨_, by first | rfl | (rw [e]; rfl), by first | exact IW.nil _ _ _ | (rw [e]; exact IW.nil _ _ _), Fr.refl _ _⟩
  obtain ⟨k, rfl⟩ : ∃ k : Nat, a = (k : Int) := ⟨a.toNat, by omega⟩
  have hb0 : decide ((k : Int) < 0) = false := by simp
  by_cases hk : m ≤ k
  · have e : R = (1, []) := by rw [show R = _ from hRH]; unfold patS; rw [if_pos (Or.inr (by rw [hm]; omega))]
    have hb1 : decide ((m : Int) ≤ (k : Int)) = true := by simp; omega
    clear h0 hm
    go_enter Tryd.func19, Tryd.ntmps19
    go_wp2_with fail
    go_ret2
    exact ⟨_, by first | rfl | (rw [e]; rfl), by first | exact IW.nil _ _ _ | (rw [e]; exact IW.nil _ _ _), Fr.refl _ _⟩
  have hkm : k < m := by omega
  have hb1 : decide ((m : Int) ≤ (k : Int)) = false := by simp; omega
  obtain ⟨x, hx⟩ : ∃ x, l[k]? = some x := ⟨_, List.getElem?_eq_getElem (by omega)⟩
  have hRe : Hidden (R = if rightS { x with n := n } = true then (0, l.set k { x with n := n }) else (51, [])) := by
    show _ = _
    rw [show R = _ from hRH]
    unfold patS
    rw [if_neg (by rw [hm]; omega)]
    simp only [Int.toNat_natCast]
    rw [List.getD_eq_getElem?_getD, hx]
    rfl
  have hub : U64 x.b := hok x (List.mem_of_getElem? hx)
  have kr := fun W => right_any { x with n := n } hub W
  have hfs := flat_set l k x n hx
  have hat := flat_get l k x hx
  have hkl : k * 4 + 1 < (l.flatMap inC).length := by rw [flat_len, hm]; omega
  have hset := fun j => flat_get (l.set k { x with n := n }) k { x with n := n } (by rw [List.getElem?_set_self (by omega)]) j
  have hfsH : Hidden _ := hfs
  have hatH : Hidden _ := hat
  have hklH : Hidden (k * 4 + 1 < (l.flatMap inC).length) := hkl
  have hsetH : Hidden _ := hset
  have hokH : Hidden (∀ i ∈ l, U64 i.b) := hok
  clear hfs hat hkl hset hx h0 hk hm hok
  obtain ⟨op, nn, t, b⟩ := x
  simp only [] at kr
  go_enter Tryd.func19, Tryd.ntmps19
  go_upto_region 5 with (first
    | (at_builtin
       refine wpl_app rfl _ _ 36 27 (.agg #[.int .i64 0, .int .i64 0, .int .i64 0, .int .u64 0]) 4 32 Tryd.underlying36 info_inz rfl (by decide) rfl w.heap.size (.slice none 0 0) 0 [] ao m cap (l.flatMap inC) rfl ?c0 rfl ?c1 ?c2 ?c3 ?c4 ?c5 ?c6 ?c7 ?_
       case c0 => exact own_nil _ _ _ _
       case c1 => rw [flat_len, show l.length = m from hmH]
       case c2 => exact hcH.1
       case c3 => exact hcH.2
       case c4 => exact flat_one l
       case c5 => simp [maxLen]; omega
       case c6 => omega
       case c7 => exact Nat.le_refl _
       intro v1 w1 r1 f1 o1
       have fw1 : Hidden (Fr (fun _ => False) w w1) := f1.mono (fun k _ e => by cases e)
       rw [Nat.zero_add, List.nil_append] at r1
       obtain ⟨g, cap1, cur, hv1, hg1, hg2, hg3, hgh, hgc, hgf, hgs⟩ := own_at r1 (k * 4 + 1) hklH
       subst hv1
       have y0 : w1.cell? ⟨g, k * 4 + 1, none⟩ = some (ci nn) := hgc _ _ (hatH 1 _ rfl)
       have fy := hgf (k * 4 + 1)
       obtain ⟨V, hV⟩ : ∃ V, V = w1.setCell ⟨g, k * 4 + 1, none⟩ (ci n) := ⟨_, rfl⟩
       have rV := hgs (ci n)
       rw [show (l.flatMap inC).set (k * 4 + 1) (ci n) = _ from hfsH, ← hV] at rV
       have fV : Hidden (Fr (fun _ => False) w V) := by
         show Fr _ _ _
         rw [hV]
         exact (show Fr (fun _ => False) w w1 from fw1).over (Fr.setCell w1 ⟨g, k * 4 + 1, none⟩ _) (fun k e => by have : k = g := e; omega)
       have rVH : Hidden _ := rV
       have hVH : Hidden (V = _) := hV
       have hcapi : cap1 ≤ 9223372036854775807 := by simpa [maxLen] using hg3
       clear f1 o1 r1 hg3 hgh hgc hgf hgs hV rV))
  rw [← (show V = _ from hVH)]
  obtain ⟨g', cap', cur', hv', _, _, _, _, hgc', _⟩ := own_at (show V.ownsRow w.heap.size _ 4 _ m _ from rVH) 0 (by rw [flat_len, List.length_set, show l.length = m from hmH]; omega)
  simp only [Value.slice.injEq, Option.some.injEq, Addr.mk.injEq, and_true, true_and] at hv'
  obtain ⟨rfl, rfl⟩ := hv'
  have z0 : V.cell? ⟨g, k * 4, none⟩ = some (ci op) := hgc' _ _ (hsetH 0 _ rfl)
  have z1 : V.cell? ⟨g, k * 4 + 1, none⟩ = some (ci n) := hgc' _ _ (hsetH 1 _ rfl)
  have z2 : V.cell? ⟨g, k * 4 + 2, none⟩ = some (ci t) := hgc' _ _ (hsetH 2 _ rfl)
  have z3 : V.cell? ⟨g, k * 4 + 3, none⟩ = some (.int .u64 b) := hgc' _ _ (hsetH 3 _ rfl)
  clear hgc' y0 fy hVH
  by_cases hri : rightS ⟨op, n, t, b⟩ = true
  · have e : R = (0, l.set k ⟨op, n, t, b⟩) := by rw [show R = _ from hRe, if_pos hri]
    rw [hri] at kr
    clear hri
    go_wp2_with (first
      | (go_at_call 8; refine (kr _).mono ?_; rintro e' w2 ⟨rfl, f2⟩))
    go_ret2
    refine ⟨_, by rw [e]; rfl, ?_, (show Fr (fun _ => False) w V from fV).same f2⟩
    rw [e]
    have r2 := own_keep (show V.ownsRow w.heap.size _ 4 _ m _ from rVH) f2 (fun _ _ f => f)
    unfold IW
    rw [List.length_set, show l.length = m from hmH]
    exact r2
  · have hrf : rightS ⟨op, n, t, b⟩ = false := by simpa using hri
    have e : R = (51, []) := by rw [show R = _ from hRe, if_neg hri]
    rw [hrf] at kr
    clear hri hrf
    go_wp2_with (first
      | (go_at_call 8; refine (kr _).mono ?_; rintro e' w2 ⟨rfl, f2⟩))
    go_ret2
    exact ⟨_, by rw [e]; rfl, by rw [e]; exact IW.nil _ _ _, (show Fr (fun _ => False) w V from fV).same f2⟩
end Go.Proofs.YticpiaonkgomfaaDoor.Cd
