/- valueAtFirst. -/
import Derived.Test.YtpjahcncknccdaaGreatFoQ
namespace Go.Proofs.YtpjahcncknccdaaGreat.Fo
open Go.RowKit Te
set_option linter.unusedSimpArgs false
set_option linter.unusedVariables false

/-- A list of expressions that is not one. -/
theorem valAt_not {d : De} {kn : List Con} (h : d.e.len ≠ 1) : valAt d kn = ((0, 0), 22) := by
  unfold valAt
  cases e : d.e with
  | nil => rfl
  | cons h1 k r => cases r with
    | nil => rw [e] at h; exact absurd rfl h
    | cons _ _ _ => rfl
theorem len_one {x : Exs} (h : x.len = 1) : ∃ h k, x = .cons h k .nil := by
  cases x with
  | nil => cases h
  | cons h1 k r => cases r with
    | nil => exact ⟨h1, k, rfl⟩
    | cons a b c => simp only [Exs.len] at h; omega
set_option maxRecDepth 20000 in
set_option maxHeartbeats 2000000 in
theorem vaf_any (d : De) (pv ev bv : Value) (l : List Con) (hok : ∀ c ∈ l, U64 c.b) (la : Option Addr) (lc : Nat) (w : World) (od : OkD d) (hd : DeI w d pv ev bv) (hl : CoL w la lc l) :
    Calls Tryz.prog 65 #[deV d pv ev bv, .slice la l.length lc] w fun e w' => e = .returned (.tuple #[vv (valAt d l).1, ci (valAt d l).2]) ∧ Fr FN w w' := by
  obtain ⟨ao1, cap1, ao2, cap2, ao3, cap3, rfl, rfl, rfl, hp, he, hb⟩ := hd
  have m2 : cap2 ≤ 9223372036854775807 := by have := he.2.1; unfold maxLen at this; omega
  have n2 := he.1
  obtain ⟨W0, hW0⟩ : ∃ W, W = ((w.alloc (.cells #[ci d.kind, .bool d.ex, ct d.name, ci d.type, .slice ao1 d.params.length cap1, .slice ao2 d.e.len cap2, .slice ao3 d.body.len cap3] 49)).alloc zo) := ⟨_, rfl⟩
  have f0 : Fr FN w W0 := by rw [hW0]; exact (Fr.alloc _ _ _).same (Fr.alloc _ _ _)
  have hA : Hidden (W0.heap[w.heap.size]? = some (.cells #[ci d.kind, .bool d.ex, ct d.name, ci d.type, .slice ao1 d.params.length cap1, .slice ao2 d.e.len cap2, .slice ao3 d.body.len cap3] 49 (0, 0))) := by rw [hW0]; exact (alloc_old _ _ _ (by simp)).trans (alloc_new _ _)
  have hB : Hidden (W0.heap[w.heap.size + 1]? = some zo) := by rw [hW0]; exact alloc_at _ _ _ (by simp)
  have hW0H : Hidden (W0 = _) := hW0
  have hS : Hidden (W0.heap.size = w.heap.size + 2) := by rw [hW0]; simp [Hidden]
  obtain ⟨a0, a1, a2, a3, a4, a5, a6⟩ := ex_box hA
  obtain ⟨b0, b1, z0, z1⟩ := box2 hB
  by_cases h1 : d.e.len = 1
  · obtain ⟨h, k, e⟩ := len_one h1
    have oe := od.e
    rw [e] at oe
    rw [h1] at a5 hA hW0H
    obtain ⟨b, off, rfl, hx⟩ : ∃ b off, ao2 = some ⟨b, off, none⟩ ∧ ExA w d.e b off := by
      rcases he.2.2 with h0 | h0
      · omega
      · exact h0
    rw [e] at hx
    obtain ⟨⟨xo, xc, hc, k1, k2, k3⟩, _⟩ := hx
    have hI : Hidden (ExI W0 h k (exV h (.slice xo k.len xc))) := ExI.keep ⟨xo, xc, rfl, k1, k2, k3⟩ f0
    have c0 := f0.cellN (hc 0 _ rfl)
    have c1 := f0.cellN (hc 1 _ rfl)
    have c2 := f0.cellN (hc 2 _ rfl)
    have c3 := f0.cellN (hc 3 _ rfl)
    have c4 := f0.cellN (hc 4 _ rfl)
    have c5 := f0.cellN (hc 5 _ rfl)
    have c6 := f0.cellN (hc 6 _ rfl)
    have kE : ∀ u, Fr FN W0 u → Calls Tryz.prog 92 #[exV h (.slice xo k.len xc), .slice la l.length lc] u fun e w' => e = .returned (.tuple #[vv (evalS l h k).1, ci (evalS l h k).2]) ∧ Fr FN u w' := fun u hu => eval_any l hok h k _ la lc u oe.1 oe.2.1 (ExI.keep hI hu) (hl.keep (f0.same hu))
    have hv : Hidden (valAt d l = if (evalS l h k).2 ≠ 0 then ((0, 0), (evalS l h k).2) else if (evalS l h k).1.1 ≠ d.type then ((0, 0), 22) else ((evalS l h k).1, 0)) := by unfold valAt; rw [e]; rfl
    generalize hR : evalS l h k = R at kE hv
    obtain ⟨⟨rt, rb⟩, re⟩ := R
    clear hR hW0 e hc k3 hl hok he hp hb
    rw [show valAt d l = _ from hv]
    have hD : ∀ u, Fr FN W0 u → u.cell? ⟨w.heap.size, 3, none⟩ = some (ci d.type) := fun u hu => hu.cellN a3
    have hBB : ∀ u, Fr FN W0 u → u.heap[w.heap.size + 1]? = some zo := fun u hu => hu.heap hB (fun f => f)
    simp only [Nat.add_zero] at c0
    rw [show W0 = _ from hW0H] at c0 c1 c2 c3 c4 c5 c6
    go_enter Tryz.func65, Tryz.ntmps65
    go_wp2_with fail
    rw [← (show W0 = _ from hW0H)]
    go_at_call 92
    refine (kE _ (Fr.refl _ _)).mono ?_
    rintro e w3 ⟨rfl, f3⟩
    have g3 := f0.same f3
    have e3 := hD w3 f3
    have eB := hBB w3 f3
    obtain ⟨b0', b1', z0', z1'⟩ := box2 eB
    have lt3 := lt_of_heap eB
    have qB : ∀ o : Obj, (w3.alloc o).heap[w.heap.size + 1]? = some zo := fun o => (alloc_old _ _ _ lt3).trans eB
    have e3' : ∀ o : Obj, (w3.alloc o).cell? ⟨w.heap.size, 3, none⟩ = some (ci d.type) := fun o => (Fr.alloc FN w3 o).cellN e3
    have y0 : ∀ o : Obj, (w3.alloc o).frozen? ⟨w.heap.size + 1, 0, none⟩ = false := fun o => frozen_row (qB o) 0
    have y1 : ∀ o : Obj, (w3.alloc o).frozen? ⟨w.heap.size + 1, 1, none⟩ = false := fun o => frozen_row (qB o) 1
    have y2 : ∀ o : Obj, (w3.alloc o).cell? ⟨w.heap.size + 1, 0, none⟩ = some (ci 0) := fun o => cell_of_row _ _ 0 _ _ _ (qB o)
    have y3 : ∀ o : Obj, (w3.alloc o).cell? ⟨w.heap.size + 1, 1, none⟩ = some (.int .u64 0) := fun o => cell_of_row _ _ 1 _ _ _ (qB o)
    by_cases hre : re = 0
    · subst hre
      by_cases hrt : rt = d.type
      · subst hrt
        simp only [ne_eq, not_true_eq_false, if_false]
        go_wp2_with fail
        exact post_v ((alloc_old _ _ _ (by simpa using lt3)).trans (set_two eB _ _)) rfl rfl rfl ⟨rfl, (fr_two g3 (by omega) _ _).same (Fr.alloc _ _ _)⟩
      · simp only [ne_eq, not_true_eq_false, if_false, hrt, not_false_eq_true, if_true]
        go_wp2_with fail
        exact post_v ((alloc_old _ _ _ (by simpa using lt3)).trans (set_two eB _ _)) rfl rfl rfl ⟨rfl, (fr_two g3 (by omega) _ _).same (Fr.alloc _ _ _)⟩
    · simp only [ne_eq, hre, not_false_eq_true, if_true]
      go_wp2_with fail
      exact post_v ((alloc_old _ _ _ (by simpa using lt3)).trans (set_two eB _ _)) rfl rfl rfl ⟨rfl, (fr_two g3 (by omega) _ _).same (Fr.alloc _ _ _)⟩
  · rw [valAt_not h1]
    clear hW0 hl hok he hp hb
    go_enter Tryz.func65, Tryz.ntmps65
    go_wp2_with fail
    rw [← (show W0 = _ from hW0H)]
    go_wp2_with fail
    exact post_v hB rfl rfl rfl ⟨rfl, f0⟩
end Go.Proofs.YtpjahcncknccdaaGreat.Fo
