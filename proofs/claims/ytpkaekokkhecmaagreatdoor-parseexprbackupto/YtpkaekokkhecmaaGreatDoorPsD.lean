/- Plain: an expression's tokens are read as that expression, all of them. -/
import Derived.Test.YtpkaekokkhecmaaGreatDoorPsC
namespace Go.Proofs.YtpkaekokkhecmaaGreatDoor
set_option linter.unusedSimpArgs false
set_option linter.unusedVariables false
set_option linter.unusedSectionVars false
namespace Pz
open Lx Te
open Go.RowKit (wrap64)

section
variable {rn : Bs → Int} {cn : Int → Int} {tx : Int → Int → Bs} (L : Law rn cn tx)
include L
theorem b_call (h : EH) (k : Exs) (hR : RX rn cn h k) (hN : NnX k) (hk : h.kind = 4) (IH : ∀ h' k', RX rn cn h' k' → 0 ≤ h'.vb → NnX k' → k'.size < k.size → Kid tx h' k') (f g f' d : Nat) (rest : List Tok) (h1 : (kB tx h k ++ rest).length ≤ f + 1) (h2 : (kB tx h k ++ rest).length ≤ g) (h3 : 0 < f') (hd : d ≤ 32) (hD : dB h k (d : Int) ≤ 32) :
    un (expr f) g f' false d (kB tx h k ++ rest) = some (.ok (h, k) rest) := by
  obtain ⟨hfit, hnm, hlen, hL⟩ := fits_of L hR
  have hA := args_ok L h (Or.inl hk) k hlen hL hN IH f g d hd _ hD rest
  obtain ⟨kind, op, mod, name, vt, vb⟩ := h
  simp only at hk
  subst hk
  obtain ⟨f', rfl⟩ : ∃ x, f' = x + 1 := ⟨f' - 1, by omega⟩
  simp [fitsE] at hfit
  obtain ⟨rfl, rfl, rfl, rfl⟩ := hfit
  have hn := nm_no L (show rn name = 0 by simpa [nameE] using hnm)
  have hT : kB tx ⟨4, 0, [], name, 0, 0⟩ k ++ rest = tN name :: tM [40] :: (kK tx ⟨4, 0, [], name, 0, 0⟩ true k ++ tM [41] :: rest) := by simp [kB, kP, kPo]
  rw [hT] at h1 h2 ⊢
  simp only [List.length_cons] at h1 h2 hA
  rw [un_pr hn.1 hn.2.1, pr, if_neg (by simp [tN]), if_pos (by rfl), refr, Pz.name, if_pos (by rfl), if_neg (by decide), bd_ok, has, if_neg (by decide), bd_ok]
  simp only [Bool.false_eq_true, if_false, bd_ok]
  rw [if_pos (by rfl), call, hA (by omega) (by omega), bd_ok]
  rfl
theorem b_farcall (h : EH) (k : Exs) (hR : RX rn cn h k) (hN : NnX k) (hk : h.kind = 5) (IH : ∀ h' k', RX rn cn h' k' → 0 ≤ h'.vb → NnX k' → k'.size < k.size → Kid tx h' k') (f g f' d : Nat) (rest : List Tok) (h1 : (kB tx h k ++ rest).length ≤ f + 1) (h2 : (kB tx h k ++ rest).length ≤ g) (h3 : 0 < f') (hd : d ≤ 32) (hD : dB h k (d : Int) ≤ 32) :
    un (expr f) g f' false d (kB tx h k ++ rest) = some (.ok (h, k) rest) := by
  obtain ⟨hfit, hnm, hlen, hL⟩ := fits_of L hR
  have hA := args_ok L h (Or.inr hk) k hlen hL hN IH f g d hd _ hD rest
  obtain ⟨kind, op, mod, name, vt, vb⟩ := h
  simp only at hk
  subst hk
  obtain ⟨f', rfl⟩ : ∃ x, f' = x + 1 := ⟨f' - 1, by omega⟩
  simp [fitsE] at hfit
  obtain ⟨rfl, rfl, rfl⟩ := hfit
  have hm : orE (rn mod) (rn name) = 0 := by simpa [nameE] using hnm
  have hn := nm_no L (orE_0 hm).1
  have hT : kB tx ⟨5, 0, mod, name, 0, 0⟩ k ++ rest = tN mod :: tM [46] :: tN name :: tM [40] :: (kK tx ⟨5, 0, mod, name, 0, 0⟩ true k ++ tM [41] :: rest) := by simp [kB, kP, kPo]
  rw [hT] at h1 h2 ⊢
  simp only [List.length_cons] at h1 h2 hA
  rw [un_pr hn.1 hn.2.1, pr, if_neg (by simp [tN]), if_pos (by rfl), refr, Pz.name, if_pos (by rfl), if_neg (by decide), bd_ok, has, if_pos (by rfl), if_neg (by decide), bd_ok]
  simp only [if_true]
  rw [Pz.name, if_pos (by rfl), if_neg (by decide), bd_ok, bd_ok]
  simp only []
  rw [if_pos (by rfl), call, hA (by omega) (by omega), bd_ok]
  rfl
theorem one_kid {k : Exs} (h : k.len = 1) : ∃ x kx, k = .cons x kx .nil := by
  cases k with
  | nil => simp [Exs.len] at h
  | cons x kx r =>
    obtain rfl := len0 (show r.len = 0 by simp only [Exs.len] at h; omega)
    exact ⟨x, kx, rfl⟩
theorem b_un (h : EH) (k : Exs) (hR : RX rn cn h k) (hN : NnX k) (hk : h.kind = 6) (IH : ∀ h' k', RX rn cn h' k' → 0 ≤ h'.vb → NnX k' → k'.size < k.size → Kid tx h' k' ∧ KidU tx h' k') (f g f' d : Nat) (rest : List Tok) (h1 : (kB tx h k ++ rest).length ≤ f + 1) (h2 : (kB tx h k ++ rest).length ≤ g) (h3 : (kB tx h k ++ rest).length ≤ f') (hd : d ≤ 32) (hD : dB h k (d : Int) ≤ 32) (hF : Fin 6 rest) :
    un (expr f) g f' false d (kB tx h k ++ rest) = some (.ok (h, k) rest) := by
  obtain ⟨hfit, hnm, hlen, hL⟩ := fits_of L hR
  obtain ⟨kind, op, mod, name, vt, vb⟩ := h
  simp only at hk
  subst hk
  simp [fitsE] at hfit
  obtain ⟨hop1, hop2, hk1, rfl, rfl, rfl, rfl⟩ := hfit
  obtain ⟨x, kx, rfl⟩ := one_kid L hk1
  have hx := level_r x
  have IHx := IH x kx (RX_kid hL).1 hN.1 hN.2.1 (by simp only [Exs.size]; omega)
  by_cases o12 : op = 1 ∨ op = 2
  · have kL : kidL ⟨6, op, [], [], 0, 0⟩ true = 6 := by unfold kidL; simp [o12]
    have kD : kidD ⟨6, op, [], [], 0, 0⟩ = 1 := by unfold kidD; rcases o12 with rfl | rfl <;> simp
    obtain ⟨d1, d2, _, _⟩ := dK_cons (by omega) (by omega) hD
    rw [kL, kD] at d2
    rw [kD] at d1
    have mkk : ∃ c, kP tx ⟨6, op, [], [], 0, 0⟩ = [tM [c]] ∧ ((op = 1 ∧ c = 45) ∨ (op = 2 ∧ c = 33)) := by
      rcases o12 with rfl | rfl
      · exact ⟨45, by simp [kP], Or.inl ⟨rfl, rfl⟩⟩
      · exact ⟨33, by simp [kP], Or.inr ⟨rfl, rfl⟩⟩
    obtain ⟨c, hc1, hc2⟩ := mkk
    have hT : kB tx ⟨6, op, [], [], 0, 0⟩ (.cons x kx .nil) ++ rest = tM [c] :: (kA tx x kx 6 ++ rest) := by
      rw [kB, hc1, kK, kK, kL, if_pos rfl]
      simp [kPo, o12, kA, kB]
    rw [hT] at h1 h2 h3 ⊢
    simp only [List.length_cons] at h1 h2 h3
    obtain ⟨f', rfl⟩ : ∃ x, f' = x + 1 := ⟨f' - 1, by omega⟩
    have hU := IHx.2 f g f' (d + 1) rest (by omega) (by omega) (by omega) (by omega) d2 hF
    rcases hc2 with ⟨rfl, rfl⟩ | ⟨rfl, rfl⟩
    · rw [un, if_pos (by rfl), opn, if_pos (by rfl), if_neg (by omega), if_neg (by decide), bd_ok, hU, bd_ok]
      rfl
    · rw [un, if_neg (by decide), if_pos (by rfl), opn, if_pos (by rfl), if_neg (by omega), if_neg (by decide), bd_ok, hU, bd_ok]
      rfl
  · have kL : kidL ⟨6, op, [], [], 0, 0⟩ true = 1 := by unfold kidL; simp [o12]
    have kD : kidD ⟨6, op, [], [], 0, 0⟩ = 1 := by unfold kidD; simp; omega
    obtain ⟨d1, d2, _, _⟩ := dK_cons (by omega) (by omega) hD
    rw [kL, kD] at d2
    rw [kD] at d1
    have hO : op = 3 ∨ op = 4 := by omega
    have hT : kB tx ⟨6, op, [], [], 0, 0⟩ (.cons x kx .nil) ++ rest = tW (if op = 3 then [105, 110, 116] else [102, 108, 111, 97, 116]) :: tM [40] :: (kB tx x kx ++ tM [41] :: rest) := by
      rw [kB, kK, kK, kL, if_pos rfl, kPar, if_neg (by simp; omega)]
      rcases hO with rfl | rfl <;> simp [kP, kPo, kB]
    rw [hT] at h1 h2 h3 ⊢
    simp only [List.length_cons] at h1 h2 h3
    obtain ⟨f', rfl⟩ : ∃ x, f' = x + 1 := ⟨f' - 1, by omega⟩
    have hE := expr_kid IHx.1 f (d + 1) (tM [41] :: rest) (by omega) (by omega) (dX_no d2 (by omega)) (fin_t _ _ _ (by decide) (by decide) (by decide))
    have hI : ins (expr f) false d (tM [40] :: (kB tx x kx ++ tM [41] :: rest)) = some (.ok (x, kx) rest) := by
      rw [ins, opn, if_pos (by rfl), if_neg (by omega), if_neg (by decide), bd_ok, hE, bd_ok, must, if_pos (by rfl), if_neg (by decide), bd_ok]
    rcases hO with rfl | rfl
    · rw [un_pr (by decide) (by decide), pr, if_neg (by decide), if_neg (by decide), if_neg (by decide), if_neg (by decide), if_neg (by decide), if_neg (by decide), if_neg (by decide), if_pos (by decide), if_neg (by decide), hI, bd_ok]
      rfl
    · rw [un_pr (by decide) (by decide), pr, if_neg (by decide), if_neg (by decide), if_neg (by decide), if_neg (by decide), if_neg (by decide), if_neg (by decide), if_neg (by decide), if_neg (by decide), if_pos (by decide), if_neg (by decide), hI, bd_ok]
      rfl
/-- Without parentheses, an operator of one or a primary. -/
theorem bareU (h : EH) (k : Exs) (hR : RX rn cn h k) (h0 : 0 ≤ h.vb) (hN : NnX k) (hl : 6 ≤ level h) (IH : ∀ h' k', RX rn cn h' k' → 0 ≤ h'.vb → NnX k' → k'.size < k.size → Kid tx h' k' ∧ KidU tx h' k') (f g f' d : Nat) (rest : List Tok) (h1 : (kB tx h k ++ rest).length ≤ f + 1) (h2 : (kB tx h k ++ rest).length ≤ g) (h3 : (kB tx h k ++ rest).length ≤ f') (hd : d ≤ 32) (hD : dB h k (d : Int) ≤ 32) (hF : Fin 6 rest) :
    un (expr f) g f' false d (kB tx h k ++ rest) = some (.ok (h, k) rest) := by
  obtain ⟨hfit, _, _, _⟩ := fits_of L hR
  have hf' : 0 < f' := by
    obtain ⟨t, r, rfl, _⟩ := hF
    simp only [List.length_append, List.length_cons] at h3
    omega
  have hK : h.kind = 1 ∨ h.kind = 2 ∨ h.kind = 3 ∨ h.kind = 4 ∨ h.kind = 5 ∨ h.kind = 6 ∨ h.kind = 7 ∨ h.kind = 8 := by
    have hfit' := hfit
    unfold fitsE at hfit'
    repeat' split at hfit'
    all_goals first | omega | cases hfit'
  rcases hK with e | e | e | e | e | e | e | e
  · exact b_lit L h k hR h0 e _ g f' d hf' rest
  · exact b_name L h k hR e _ g f' d hf' rest hF
  · exact b_far L h k hR e _ g f' d hf' rest hF
  · exact b_call L h k hR hN e (fun h' k' r1 r2 r3 hs => (IH h' k' r1 r2 r3 hs).1) f g f' d rest h1 h2 hf' hd hD
  · exact b_farcall L h k hR hN e (fun h' k' r1 r2 r3 hs => (IH h' k' r1 r2 r3 hs).1) f g f' d rest h1 h2 hf' hd hD
  · exact b_un L h k hR hN e IH f g f' d rest h1 h2 h3 hd hD hF
  · exfalso
    simp [fitsE, e] at hfit
    unfold level lv2 at hl
    simp [e] at hl
    repeat' split at hl
    all_goals omega
  · exact b_input L h k hR e _ g f' d hf' rest
end
end Pz
end Go.Proofs.YtpkaekokkhecmaaGreatDoor
