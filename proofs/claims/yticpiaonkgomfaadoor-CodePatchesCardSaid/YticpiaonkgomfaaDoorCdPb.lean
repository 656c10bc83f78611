/- Patch: the document's. -/
import Derived.Test.YticpiaonkgomfaaDoorCdPa
namespace Go.Proofs.YticpiaonkgomfaaDoor.Cd
open Go.RowKit Ty
set_option linter.unusedSimpArgs false
set_option linter.unusedVariables false

theorem flat_set4 : ∀ (l : List In) (k : Nat) (x : In), k < l.length → ((((l.flatMap inC).set (k * 4) (ci x.op)).set (k * 4 + 1) (ci x.n)).set (k * 4 + 2) (ci x.t)).set (k * 4 + 3) (.int .u64 x.b) = (l.set k x).flatMap inC
  | [], k, x, h => by simp at h
  | y :: r, 0, x, h => rfl
  | y :: r, k + 1, x, h => by
    have ih := flat_set4 r k x (by simpa using h)
    rw [List.set_cons_succ, List.flatMap_cons, List.flatMap_cons, ← ih]
    have e : ∀ j, (k + 1) * 4 + j = (inC y).length + (k * 4 + j) := fun j => by rw [inC_len]; omega
    have e0 : (k + 1) * 4 = (inC y).length + k * 4 := by rw [inC_len]; omega
    rw [e 1, e 2, e 3, e0]
    simp only [List.set_append_right _ _ (Nat.le_add_right _ _), Nat.add_sub_cancel_left]
theorem own_four {w : World} {B : Nat} {e : TypeId} {v : Value} {m k : Nat} {l : List In} (h : w.ownsRow B e 4 v m (l.flatMap inC)) (hk : k < l.length) (x : In) :
    ∃ g cap, v = .slice (some ⟨g, 0, none⟩) m cap ∧ B ≤ g ∧ m ≤ cap ∧ cap ≤ maxLen ∧ (∀ (i : Nat) (u : Value), (l.flatMap inC)[i]? = some u → w.cell? ⟨g, i, none⟩ = some u) ∧ (∀ i, w.frozen? ⟨g, i, none⟩ = false) ∧
      ((((w.setCell ⟨g, k * 4, none⟩ (ci x.op)).setCell ⟨g, k * 4 + 1, none⟩ (ci x.n)).setCell ⟨g, k * 4 + 2, none⟩ (ci x.t)).setCell ⟨g, k * 4 + 3, none⟩ (.int .u64 x.b)).ownsRow B e 4 v m ((l.set k x).flatMap inC) := by
  have hl := flat_len l
  obtain ⟨g, cap, cur, hv, a1, a2, a3, a4, a5, a6, a7⟩ := own_at h (k * 4) (by omega)
  have s0 := a7 (ci x.op)
  obtain ⟨g1, cap1, cur1, hv1, _, _, _, _, _, _, b7⟩ := own_at s0 (k * 4 + 1) (by rw [List.length_set]; omega)
  rw [hv] at hv1
  simp only [Value.slice.injEq, Option.some.injEq, Addr.mk.injEq, and_true, true_and] at hv1
  obtain ⟨rfl, rfl⟩ := hv1
  have s1 := b7 (ci x.n)
  obtain ⟨g2, cap2, cur2, hv2, _, _, _, _, _, _, c7⟩ := own_at s1 (k * 4 + 2) (by rw [List.length_set, List.length_set]; omega)
  rw [hv] at hv2
  simp only [Value.slice.injEq, Option.some.injEq, Addr.mk.injEq, and_true, true_and] at hv2
  obtain ⟨rfl, rfl⟩ := hv2
  have s2 := c7 (ci x.t)
  obtain ⟨g3, cap3, cur3, hv3, _, _, _, _, _, _, d7⟩ := own_at s2 (k * 4 + 3) (by rw [List.length_set, List.length_set, List.length_set]; omega)
  rw [hv] at hv3
  simp only [Value.slice.injEq, Option.some.injEq, Addr.mk.injEq, and_true, true_and] at hv3
  obtain ⟨rfl, rfl⟩ := hv3
  refine ⟨g, cap, hv, a1, a2, a3, a5, a6, ?_⟩
  rw [← flat_set4 l k x hk]
  exact d7 _
theorem four_fr_at (w : World) (g j : Nat) (v0 v1 v2 v3 : Value) : Fr (fun k => k = g) w ((((w.setCell ⟨g, j, none⟩ v0).setCell ⟨g, j + 1, none⟩ v1).setCell ⟨g, j + 2, none⟩ v2).setCell ⟨g, j + 3, none⟩ v3) :=
  (((Fr.setCell w ⟨g, j, none⟩ v0).same (Fr.setCell _ ⟨g, j + 1, none⟩ v1)).same (Fr.setCell _ ⟨g, j + 2, none⟩ v2)).same (Fr.setCell _ ⟨g, j + 3, none⟩ v3)
set_option maxRecDepth 20000 in
set_option maxHeartbeats 4000000 in
theorem rpatch_any (ao : Option Addr) (m cap : Nat) (l : List In) (hm : l.length = m) (a n : Int) (w : World) (h : IL w ao cap l) (hok : ∀ i ∈ l, U64 i.b) (hb : m ≤ 4398046510976) :
    Calls Tryd.prog 20 #[.slice ao m cap, ci a, ci n] w fun e w' => ∃ v, e = .returned (.tuple #[v, ci (patS l a n).1]) ∧ IW w' w.heap.size 26 v (patS l a n).2 ∧ Fr (fun _ => False) w w' := by
  have hcells := h.cells
  rw [hm] at hcells
  have hcH : Hidden _ := hcells
  have hmH : Hidden (l.length = m) := hm
  have hcap : m ≤ cap := by rw [← hm]; exact h.1
  have hcm : cap ≤ 9223372036854775807 := by have := h.2.1; simpa [maxLen] using this
  obtain ⟨R, hR⟩ : ∃ R, R = patS l a n := ⟨_, rfl⟩
  rw [← hR]
  have hRH : Hidden (R = patS l a n) := hR
  clear hcells hR
  by_cases h0 : a < 0
  · have e : R = (1, []) := by rw [show R = _ from hRH]; unfold patS; rw [if_pos (Or.inl h0)]
    have hb0 : decide (a < 0) = true := by simpa using h0
    clear h0 hm h
    go_enter Tryd.func20, Tryd.ntmps20
    go_wp2_with fail
    go_ret2
    exact ⟨_, by first | rfl | (rw [e]; rfl), by first | exact IW.nil _ _ _ | (rw [e]; exact IW.nil _ _ _), Fr.refl _ _⟩
  obtain ⟨k, rfl⟩ : ∃ k : Nat, a = (k : Int) := ⟨a.toNat, by omega⟩
  have hb0 : decide ((k : Int) < 0) = false := by simp
  by_cases hk : m ≤ k
  · have e : R = (1, []) := by rw [show R = _ from hRH]; unfold patS; rw [if_pos (Or.inr (by rw [hm]; omega))]
    have hb1 : decide ((m : Int) ≤ (k : Int)) = true := by simp; omega
    clear h0 hm h
    go_enter Tryd.func20, Tryd.ntmps20
    go_wp2_with fail
    go_ret2
    exact ⟨_, by first | rfl | (rw [e]; rfl), by first | exact IW.nil _ _ _ | (rw [e]; exact IW.nil _ _ _), Fr.refl _ _⟩
  have hkm : k < m := by omega
  have hb1 : decide ((m : Int) ≤ (k : Int)) = false := by simp; omega
  obtain ⟨x, hx⟩ : ∃ x, l[k]? = some x := ⟨_, List.getElem?_eq_getElem (by omega)⟩
  have hRe : Hidden (R = if rightS { x with n := n } = true then (0, l.set k { x with n := n }) else (51, [])) := by
    show _ = _
    rw [show R = _ from hRH]
    unfold patS
    rw [if_neg (by rw [hm]; omega)]
    simp only [Int.toNat_natCast]
    rw [List.getD_eq_getElem?_getD, hx]
    rfl
  have hub : U64 x.b := hok x (List.mem_of_getElem? hx)
  have kr := fun W => rright_any { x with n := n } hub W
  obtain ⟨b0, off, rfl, hc⟩ := h.2.2.2.resolve_left (by rintro rfl; simp at hx)
  obtain ⟨c0, c1, c2, c3⟩ := IL.at' (cap := cap) hc hx
  have hat := flat_get l k x hx
  have hatH : Hidden _ := hat
  clear hat hx h0 hk hm hok hc h
  obtain ⟨op, nn, t, b⟩ := x
  simp only [] at kr c0 c1 c2 c3
  go_enter Tryd.func20, Tryd.ntmps20
  have X0 := alloc_new w (.cells #[ci op, ci nn, ci t, .int .u64 b] 26 (0, 0))
  obtain ⟨d0, d1, d2, d3⟩ := box4 X0
  have fd1 := fz_row X0 1
  go_upto_region 5 with fail
  obtain ⟨V, hV⟩ : ∃ V, V = w.alloc (.cells #[ci op, ci n, ci t, .int .u64 b] 26 (0, 0)) := ⟨_, rfl⟩
  have XV : V.heap[w.heap.size]? = some (.cells #[ci op, ci n, ci t, .int .u64 b] 26 (0, 0)) := by rw [hV]; exact alloc_new _ _
  have fV : Fr (fun _ => False) w V := by rw [hV]; exact Fr.alloc _ _ _
  rw [← hV]
  clear hV X0 d0 d1 d2 d3 fd1
  obtain ⟨d0, d1, d2, d3⟩ := box4 XV
  generalize hG : w.heap.size = G at XV d0 d1 d2 d3 ⊢
  have hGH : Hidden (w.heap.size = G) := hG
  have hGV : Hidden (G < V.heap.size) := lt_of_heap XV
  clear hG
  by_cases hri : rightS ⟨op, n, t, b⟩ = true
  · have e : R = (0, l.set k ⟨op, n, t, b⟩) := by rw [show R = _ from hRe, if_pos hri]
    rw [hri] at kr
    clear hri
    have hkl : k < l.length := by have : l.length = m := hmH; omega
    have fVH : Hidden (Fr (fun _ => False) w V) := fV
    go_wp2_with (first
      | (go_at_call 9; refine (kr _).mono ?_; rintro e' w2 ⟨rfl, f2⟩)
      | (at_builtin
         refine wpl_app rfl _ _ 40 26 (.agg #[.int .i64 0, .int .i64 0, .int .i64 0, .int .u64 0]) 4 32 Tryd.underlying40 info_rin rfl (by decide) rfl G (.slice none 0 0) 0 [] (some ⟨b0, off, none⟩) m cap (l.flatMap inC) rfl ?c0 rfl ?c1 ?c2 ?c3 ?c4 ?c5 ?c6 ?c7 ?_
         case c0 => exact own_nil _ _ _ _
         case c1 => rw [flat_len, show l.length = m from hmH]
         case c2 => exact hcH.1
         case c3 => exact fun ad e j u hu => f2.cellN ((show Fr (fun _ => False) w V from fVH).cellN (hcH.2 ad e j u hu))
         case c4 => exact flat_one l
         case c5 => simp [maxLen]; omega
         case c6 => omega
         case c7 => have h1 : G < V.heap.size := hGV; have h2 := f2.size; omega
         intro v1 w1 r1 f1 o1
         have f21 : Fr (fun _ => False) w2 w1 := f1.mono (fun k _ e => by cases e)
         rw [Nat.zero_add, List.nil_append] at r1
         obtain ⟨g, cap1, hv1, hg1, hg2, hg3, hgc, hgf, hgs⟩ := own_four r1 hkl ⟨op, n, t, b⟩
         subst hv1
         have y0 : w1.cell? ⟨g, k * 4, none⟩ = some (ci op) := hgc _ _ (hatH 0 _ rfl)
         have y1 : w1.cell? ⟨g, k * 4 + 1, none⟩ = some (ci nn) := hgc _ _ (hatH 1 _ rfl)
         have y2 : w1.cell? ⟨g, k * 4 + 2, none⟩ = some (ci t) := hgc _ _ (hatH 2 _ rfl)
         have y3 : w1.cell? ⟨g, k * 4 + 3, none⟩ = some (.int .u64 b) := hgc _ _ (hatH 3 _ rfl)
         have fy0 := hgf (k * 4)
         have fy1 := hgf (k * 4 + 1)
         have fy2 := hgf (k * 4 + 2)
         have fy3 := hgf (k * 4 + 3)
         have z0 := (f2.same f21).cellN d0
         have z1 := (f2.same f21).cellN d1
         have z2 := (f2.same f21).cellN d2
         have z3 := (f2.same f21).cellN d3
         have hcapi : cap1 ≤ 9223372036854775807 := by simpa [maxLen] using hg3
         have fw1 : Hidden (Fr (fun _ => False) w w1) := (show Fr (fun _ => False) w V from fVH).same (f2.same f21)
         have hgsH : Hidden _ := hgs
         have hg1H : Hidden (G ≤ g) := hg1
         clear f1 o1 r1 hg1 hg3 hgc hgf hgs f21))
    go_ret2
    refine ⟨_, by first | rfl | (rw [e]; rfl), ?_, ?_⟩
    · have e2 : R.2 = l.set k ⟨op, n, t, b⟩ := by rw [e]
      first
        | (show IW _ w.heap.size _ _ (l.set k ⟨op, n, t, b⟩))
        | rw [e2]
      unfold IW
      rw [List.length_set, show l.length = m from hmH, show w.heap.size = G from hGH]
      exact hgsH
    · exact (show Fr (fun _ => False) w w1 from fw1).over (four_fr_at w1 g (k * 4) _ _ _ _) (fun q e => by have h1 : G ≤ g := hg1H; have h2 : w.heap.size = G := hGH; omega)
  · have hrf : rightS ⟨op, n, t, b⟩ = false := by simpa using hri
    have e : R = (51, []) := by rw [show R = _ from hRe, if_neg hri]
    rw [hrf] at kr
    clear hri hrf
    go_wp2_with (first
      | (go_at_call 9; refine (kr _).mono ?_; rintro e' w2 ⟨rfl, f2⟩))
    go_ret2
    exact ⟨_, by rw [e]; rfl, by rw [e]; exact IW.nil _ _ _, fV.same f2⟩
end Go.Proofs.YticpiaonkgomfaaDoor.Cd
