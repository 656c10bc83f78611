/- Plain: an expression's tokens are read as that expression: operators, the whole. -/
import Derived.Test.YtpkaekokkhecmaaGreatDoorPsB
namespace Go.Proofs.YtpkaekokkhecmaaGreatDoor
set_option linter.unusedSimpArgs false
set_option linter.unusedVariables false
set_option linter.unusedSectionVars false
namespace Pz
open Lx Te
open Go.RowKit (wrap64)

section
variable {rn : Bs → Int} {cn : Int → Int} {tx : Int → Int → Bs} (L : Law rn cn tx)
include L
theorem fits_of {h : EH} {k : Exs} (hR : RX rn cn h k) : fitsE cn h k.len = true ∧ nameE rn h = 0 ∧ k.len ≤ 8 ∧ errL rn cn k = 0 := by
  obtain ⟨h1, h2⟩ := hR
  unfold errH at h1
  obtain ⟨a, b⟩ := orE_0 h1
  obtain ⟨c, d⟩ := orE_0 b
  refine ⟨?_, c, ?_, h2⟩
  · by_cases e : fitsE cn h k.len = true
    · exact e
    · rw [if_neg e] at a; omega
  · by_cases e : 8 < k.len
    · rw [if_pos e] at d; omega
    · omega
/-- A literal. -/
theorem b_lit (h : EH) (k : Exs) (hR : RX rn cn h k) (h0' : 0 ≤ h.vb) (hk : h.kind = 1) (E : Bool → Nat → List Tok → Ou Ex) (g f' d : Nat) (hf : 0 < f') (rest : List Tok) : un E g f' false d (kB tx h k ++ rest) = some (.ok (h, k) rest) := by
  obtain ⟨hfit, _, _, _⟩ := fits_of L hR
  obtain ⟨kind, op, mod, name, vt, vb⟩ := h
  simp only at hk
  subst hk
  obtain ⟨f', rfl⟩ : ∃ x, f' = x + 1 := ⟨f' - 1, by omega⟩
  simp only [fitsE, if_pos, Bool.and_eq_true, decide_eq_true_eq] at hfit
  obtain ⟨hl, rfl, rfl, rfl, h0⟩ := hfit
  obtain rfl := len0 h0
  have hT : kB tx ⟨1, 0, [], [], vt, vb⟩ .nil ++ rest = tL tx vt vb :: rest := by simp [kB, kP, kK, kPo]
  rw [hT]
  unfold tL
  by_cases v1 : vt = 1
  · subst v1
    obtain ⟨c, r, e, hc⟩ := L.int vb h0'
    have hn := dgt_no hc
    rw [if_pos rfl, un_pr (by simp only; rw [e]; intro x; cases x; exact hn.1 rfl) (by simp only; rw [e]; intro x; cases x; exact hn.2.1 rfl), pr, if_pos (by simp)]
    rfl
  · by_cases v2 : vt = 2
    · subst v2
      rw [if_neg (by decide), if_pos rfl]
      by_cases e1 : vb = 9218868437227405312
      · subst e1
        rw [if_pos rfl, un_pr (by decide) (by decide), pr, if_neg (by decide), if_neg (by decide), if_neg (by decide), if_neg (by decide), if_pos (by decide)]
        rfl
      · rw [if_neg e1]
        by_cases e2 : vb = 9221120237041090561
        · subst e2
          rw [if_pos rfl, un_pr (by decide) (by decide), pr, if_neg (by decide), if_neg (by decide), if_neg (by decide), if_neg (by decide), if_neg (by decide), if_pos (by decide)]
          rfl
        · obtain ⟨c, r, e, hc⟩ := L.flo vb h0' hl e1 e2
          have hn := dgt_no hc
          rw [if_neg e2, un_pr (by simp only; rw [e]; intro x; cases x; exact hn.1 rfl) (by simp only; rw [e]; intro x; cases x; exact hn.2.1 rfl), pr, if_pos (by simp)]
          rfl
    · have v3 : vt = 3 ∧ vb ≤ 1 := by
        unfold litOk at hl
        rw [if_neg v1, if_neg v2] at hl
        by_cases e : vt = 3
        · rw [if_pos e] at hl
          exact ⟨e, by simpa using hl⟩
        · rw [if_neg e] at hl; cases hl
      obtain ⟨rfl, hv⟩ := v3
      rw [if_neg (by decide), if_neg (by decide)]
      by_cases e0 : vb = 0
      · subst e0
        rw [if_pos rfl, un_pr (by decide) (by decide), pr, if_neg (by decide), if_neg (by decide), if_neg (by decide), if_pos (by decide)]
        rfl
      · rw [if_neg e0, un_pr (by decide) (by decide), pr, if_neg (by decide), if_neg (by decide), if_pos (by decide)]
        obtain rfl : vb = 1 := by simp only at h0'; omega
        rfl
theorem nm_no {x : Bs} (h : rn x = 0) : x ≠ [45] ∧ x ≠ [33] ∧ x ≠ [41] := by
  obtain ⟨c, r, rfl, hc⟩ := L.nm x h
  have hn := ltr_no hc
  refine ⟨?_, ?_, ?_⟩ <;> (intro e; cases e)
  · exact hn.1 rfl
  · exact hn.2.1 rfl
  · exact hn.2.2.2.1 rfl
theorem b_input (h : EH) (k : Exs) (hR : RX rn cn h k) (hk : h.kind = 8) (E : Bool → Nat → List Tok → Ou Ex) (g f' d : Nat) (hf : 0 < f') (rest : List Tok) : un E g f' false d (kB tx h k ++ rest) = some (.ok (h, k) rest) := by
  obtain ⟨hfit, _, _, _⟩ := fits_of L hR
  obtain ⟨kind, op, mod, name, vt, vb⟩ := h
  simp only at hk
  subst hk
  obtain ⟨f', rfl⟩ : ∃ x, f' = x + 1 := ⟨f' - 1, by omega⟩
  simp [fitsE] at hfit
  obtain ⟨rfl, rfl, rfl, rfl, rfl, h0⟩ := hfit
  obtain rfl := len0 h0
  have hT : kB tx ⟨8, 0, [], [], 0, 0⟩ .nil ++ rest = tW [105, 110, 112, 117, 116] :: rest := by simp [kB, kP, kK, kPo]
  rw [hT, un_pr (by decide) (by decide), pr, if_neg (by decide), if_neg (by decide), if_neg (by decide), if_neg (by decide), if_neg (by decide), if_neg (by decide), if_pos (by decide)]
  rfl
theorem b_name (h : EH) (k : Exs) (hR : RX rn cn h k) (hk : h.kind = 2) (E : Bool → Nat → List Tok → Ou Ex) (g f' d : Nat) (hf : 0 < f') (rest : List Tok) (hF : Fin 6 rest) : un E g f' false d (kB tx h k ++ rest) = some (.ok (h, k) rest) := by
  obtain ⟨hfit, hnm, _, _⟩ := fits_of L hR
  obtain ⟨kind, op, mod, name, vt, vb⟩ := h
  simp only at hk
  subst hk
  obtain ⟨f', rfl⟩ : ∃ x, f' = x + 1 := ⟨f' - 1, by omega⟩
  simp [fitsE] at hfit
  obtain ⟨rfl, rfl, rfl, rfl, h0⟩ := hfit
  obtain rfl := len0 h0
  have hn := nm_no L (show rn name = 0 by simpa [nameE] using hnm)
  obtain ⟨t, r, rfl, t1, t2, _⟩ := hF
  have hT : kB tx ⟨2, 0, [], name, 0, 0⟩ .nil ++ t :: r = tN name :: t :: r := by simp [kB, kP, kK, kPo]
  rw [hT, un_pr hn.1 hn.2.1, pr, if_neg (by simp [tN]), if_pos (by rfl), refr, Pz.name, if_pos (by rfl), if_neg (by decide), bd_ok, has, if_neg t1, bd_ok]
  simp only [Bool.false_eq_true, if_false, bd_ok]
  rw [if_neg t2]
  rfl
theorem b_far (h : EH) (k : Exs) (hR : RX rn cn h k) (hk : h.kind = 3) (E : Bool → Nat → List Tok → Ou Ex) (g f' d : Nat) (hf : 0 < f') (rest : List Tok) (hF : Fin 6 rest) : un E g f' false d (kB tx h k ++ rest) = some (.ok (h, k) rest) := by
  obtain ⟨hfit, hnm, _, _⟩ := fits_of L hR
  obtain ⟨kind, op, mod, name, vt, vb⟩ := h
  simp only at hk
  subst hk
  obtain ⟨f', rfl⟩ : ∃ x, f' = x + 1 := ⟨f' - 1, by omega⟩
  simp [fitsE] at hfit
  obtain ⟨rfl, rfl, rfl, h0⟩ := hfit
  obtain rfl := len0 h0
  have hm : orE (rn mod) (rn name) = 0 := by simpa [nameE] using hnm
  have hn := nm_no L (orE_0 hm).1
  obtain ⟨t, r, rfl, t1, t2, _⟩ := hF
  have hT : kB tx ⟨3, 0, mod, name, 0, 0⟩ .nil ++ t :: r = tN mod :: tM [46] :: tN name :: t :: r := by simp [kB, kP, kK, kPo]
  rw [hT, un_pr hn.1 hn.2.1, pr, if_neg (by simp [tN]), if_pos (by rfl), refr, Pz.name, if_pos (by rfl), if_neg (by decide), bd_ok, has, if_pos (by rfl), if_neg (by decide), bd_ok]
  simp only [if_true]
  rw [Pz.name, if_pos (by rfl), if_neg (by decide), bd_ok, bd_ok]
  simp only []
  rw [if_neg t2]
  rfl
/-- The first token of an expression. -/
theorem head_ok : ∀ (n : Nat) (h : EH) (k : Exs), k.size < n → RX rn cn h k → 0 ≤ h.vb → NnX k → ∃ t r, kB tx h k = t :: r ∧ t.x ≠ [41] := by
  intro n
  induction n with
  | zero => intro h k hn; omega
  | succ n ih =>
    intro h k hs hR h0 hN
    obtain ⟨hfit, hnm, _, hL⟩ := fits_of L hR
    have hK : h.kind = 1 ∨ h.kind = 2 ∨ h.kind = 3 ∨ h.kind = 4 ∨ h.kind = 5 ∨ h.kind = 6 ∨ h.kind = 7 ∨ h.kind = 8 := by
      unfold fitsE at hfit
      repeat' split at hfit
      all_goals first | omega | cases hfit
    rcases hK with e | e | e | e | e | e | e | e
    · refine ⟨tL tx h.vt h.vb, kK tx h true k ++ kPo h, by simp [kB, kP, e], ?_⟩
      unfold tL
      have hl : litOk cn h.vt h.vb = true := by simp [fitsE, e] at hfit; exact hfit.1
      by_cases v1 : h.vt = 1
      · rw [if_pos v1]
        obtain ⟨c, r, e', hc⟩ := L.int h.vb h0
        have hn := dgt_no hc
        simp only; rw [e']; intro x; cases x; exact hn.2.2.2.1 rfl
      · rw [if_neg v1]
        by_cases v2 : h.vt = 2
        · rw [if_pos v2]
          by_cases e1 : h.vb = 9218868437227405312
          · rw [if_pos e1]; decide
          · rw [if_neg e1]
            by_cases e2 : h.vb = 9221120237041090561
            · rw [if_pos e2]; decide
            · rw [if_neg e2]
              obtain ⟨c, r, e', hc⟩ := L.flo h.vb h0 (v2 ▸ hl) e1 e2
              have hn := dgt_no hc
              simp only; rw [e']; intro x; cases x; exact hn.2.2.2.1 rfl
        · rw [if_neg v2]
          split <;> decide
    · exact ⟨tN h.name, kK tx h true k ++ kPo h, by simp [kB, kP, e], (nm_no L (show rn h.name = 0 by simpa [nameE, e] using hnm)).2.2⟩
    · have hm : orE (rn h.mod) (rn h.name) = 0 := by simpa [nameE, e] using hnm
      exact ⟨tN h.mod, [tM [46], tN h.name] ++ kK tx h true k ++ kPo h, by simp [kB, kP, e], (nm_no L (orE_0 hm).1).2.2⟩
    · exact ⟨tN h.name, [tM [40]] ++ kK tx h true k ++ kPo h, by simp [kB, kP, e], (nm_no L (show rn h.name = 0 by simpa [nameE, e] using hnm)).2.2⟩
    · have hm : orE (rn h.mod) (rn h.name) = 0 := by simpa [nameE, e] using hnm
      exact ⟨tN h.mod, [tM [46], tN h.name, tM [40]] ++ kK tx h true k ++ kPo h, by simp [kB, kP, e], (nm_no L (orE_0 hm).1).2.2⟩
    · by_cases o1 : h.op = 1
      · exact ⟨tM [45], kK tx h true k ++ kPo h, by simp [kB, kP, e, o1], by decide⟩
      · by_cases o2 : h.op = 2
        · exact ⟨tM [33], kK tx h true k ++ kPo h, by simp [kB, kP, e, o2], by decide⟩
        · by_cases o3 : h.op = 3
          · exact ⟨tW [105, 110, 116], tM [40] :: (kK tx h true k ++ kPo h), by simp [kB, kP, e, o3], by decide⟩
          · exact ⟨tW [102, 108, 111, 97, 116], tM [40] :: (kK tx h true k ++ kPo h), by simp [kB, kP, e, o1, o2, o3], by decide⟩
    · have h2 : k.len = 2 := by simp [fitsE, e] at hfit; exact hfit.2.2.1
      cases k with
      | nil => simp [Exs.len] at h2
      | cons x kx r =>
        obtain ⟨hRx, _⟩ := RX_kid hL
        obtain ⟨t, r', e', ht⟩ := ih x kx (by simp only [Exs.size] at hs; omega) hRx hN.1 hN.2.1
        by_cases hp : level x < kidL h true
        · refine ⟨tM [40], (kB tx x kx ++ [tM [41]]) ++ kK tx h false r ++ kPo h, ?_, by decide⟩
          simp [kB, kP, e, kK, kPar, hp]
        · refine ⟨t, r' ++ kK tx h false r ++ kPo h, ?_, ht⟩
          have : kB tx h (.cons x kx r) = kB tx x kx ++ (kK tx h false r ++ kPo h) := by simp [kB, kP, e, kK, kPar, hp]
          rw [this, e']
          simp
    · exact ⟨tW [105, 110, 112, 117, 116], kK tx h true k ++ kPo h, by simp [kB, kP, e], by decide⟩
/-- Arguments. -/
theorem args_ok (p : EH) (hp : p.kind = 4 ∨ p.kind = 5) (k : Exs) (hlen : k.len ≤ 8) (hL : errL rn cn k = 0) (hN : NnX k) (IH : ∀ h' k', RX rn cn h' k' → 0 ≤ h'.vb → NnX k' → k'.size < k.size → Kid tx h' k') (f g d : Nat) (hd : d ≤ 32) (a' : Int) (hD : dK p k true (d : Int) a' ≤ 32) (rest : List Tok)
    (hf : (tM [40] :: (kK tx p true k ++ tM [41] :: rest)).length ≤ f) (hg : (tM [40] :: (kK tx p true k ++ tM [41] :: rest)).length ≤ g) :
    args (expr f) g d (tM [40] :: (kK tx p true k ++ tM [41] :: rest)) = some (.ok k rest) := by
  cases k with
  | nil =>
    simp only [kK, List.nil_append]
    rw [args, if_pos ⟨rfl, rfl⟩]
  | cons h k r =>
    have hl := level_r h
    have kL : ∀ b, kidL p b = 1 := by intro b; unfold kidL; rcases hp with e | e <;> simp [e]
    have kD : kidD p = 1 := by unfold kidD; rcases hp with e | e <;> simp [e]
    obtain ⟨hRx, hLr⟩ := RX_kid hL
    obtain ⟨t, r', e', ht⟩ := head_ok L _ h k (Nat.lt_succ_self _) hRx hN.1 hN.2.1
    have hT : kK tx p true (.cons h k r) ++ tM [41] :: rest = kB tx h k ++ (kK tx p false r ++ tM [41] :: rest) := by
      rw [kK, kL, if_pos rfl, kPar, if_neg (by simp; omega)]
      simp [kB]
    rw [hT] at hf hg ⊢
    obtain ⟨d1, d2, a2, d3⟩ := dK_cons (by omega) (by omega) hD
    rw [kL, kD] at d2
    rw [kD] at d1
    have hT2 : kB tx h k ++ (kK tx p false r ++ tM [41] :: rest) = t :: (r' ++ (kK tx p false r ++ tM [41] :: rest)) := by rw [e']; simp
    have hF : Fin 1 (kK tx p false r ++ tM [41] :: rest) := by
      cases r with
      | nil => simp only [kK, List.nil_append]; exact fin_t _ _ _ (by decide) (by decide) (by decide)
      | cons h' k' r' =>
        have kS : kSe p = [tM [44]] := by unfold kSe; rcases hp with e | e <;> simp [e]
        rw [kK, kS, if_neg (by simp)]; simp only [List.cons_append, List.append_assoc]; exact fin_t _ _ _ (by decide) (by decide) (by decide)
    have hE := expr_kid (IH h k hRx hN.1 hN.2.1 (by simp only [Exs.size]; omega)) f (d + 1) (kK tx p false r ++ tM [41] :: rest) (by simp only [List.length_cons] at hf; omega) (by omega) (dX_no d2 (by omega)) hF
    simp only [List.length_cons, Exs.len] at hf hg hlen
    have hW := rw_args (tx := tx) rn cn p hp f d (by omega) rest r (.cons h k .nil) g a2 hLr hN.2.2 (fun h' k' r1 r2 r3 hs => IH h' k' r1 r2 r3 (by simp only [Exs.size]; omega)) (by simp only [Exs.len]; omega) (by simp [Exs.len]) (by simp only [List.length_append] at hf ⊢; omega) (by simp only [List.length_append] at hg ⊢; omega) d3
    rw [hT2] at hE ⊢
    rw [args, if_neg (fun x => ht x.2), opn, if_pos (by rfl), if_neg (by omega), if_neg (by decide), bd_ok, hE, bd_ok, hW, bd_ok, must, if_pos (by rfl), if_neg (by decide), bd_ok]
    rfl
end
end Pz
end Go.Proofs.YtpkaekokkhecmaaGreatDoor
