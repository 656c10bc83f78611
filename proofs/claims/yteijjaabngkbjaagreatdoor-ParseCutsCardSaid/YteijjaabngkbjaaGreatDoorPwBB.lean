/- PsE PsJ PsM PsT PsV PwA PwB -/
import Derived.Test.YteijjaabngkbjaaGreatDoorPsDB
import Derived.Test.YteijjaabngkbjaaGreatDoorLxAll
import Derived.Test.YteijjaabngkbjaaGreatDoorIyAB
namespace Go.Proofs.YteijjaabngkbjaaGreatDoor
set_option linter.unusedSimpArgs false
set_option linter.unusedVariables false
set_option linter.unusedSectionVars false
namespace Pz
open Lx Te
open Go.RowKit (wrap64)
theorem Fin.mono {a b : Nat} {rest : List Tok} (h : Fin a rest) (hab : a ≤ b) : Fin b rest := by
  obtain ⟨t, r, rfl, h1, h2, h3⟩ := h
  exact ⟨t, r, rfl, h1, h2, by omega⟩
theorem op_cases {op : Int} (h1 : 1 ≤ op) (h2 : op ≤ 13) : op = 1 ∨ op = 2 ∨ op = 3 ∨ op = 4 ∨ op = 5 ∨ op = 6 ∨ op = 7 ∨ op = 8 ∨ op = 9 ∨ op = 10 ∨ op = 11 ∨ op = 12 ∨ op = 13 := by omega
theorem mk2_op {op : Int} (h1 : 1 ≤ op) (h2 : op ≤ 13) : ∃ lv : Nat, lv2 op = (lv : Int) ∧ 1 ≤ lv ∧ lv ≤ 5 ∧ opOf (mk2 op) = (op, lv) ∧ mk2 op ≠ [46] ∧ mk2 op ≠ [40] := by
  rcases op_cases h1 h2 with rfl | rfl | rfl | rfl | rfl | rfl | rfl | rfl | rfl | rfl | rfl | rfl | rfl
  · exact ⟨4, by decide⟩
  · exact ⟨4, by decide⟩
  · exact ⟨5, by decide⟩
  · exact ⟨5, by decide⟩
  · exact ⟨5, by decide⟩
  · exact ⟨3, by decide⟩
  · exact ⟨3, by decide⟩
  · exact ⟨3, by decide⟩
  · exact ⟨3, by decide⟩
  · exact ⟨3, by decide⟩
  · exact ⟨3, by decide⟩
  · exact ⟨2, by decide⟩
  · exact ⟨1, by decide⟩
section
variable {rn : Bs → Int} {cn : Int → Int} {tx : Int → Int → Bs} (L : Law rn cn tx)
include L
theorem two_kids {k : Exs} (h : k.len = 2) : ∃ x kx y ky, k = .cons x kx (.cons y ky .nil) := by
  cases k with
  | nil => simp [Exs.len] at h
  | cons x kx r =>
    obtain ⟨y, ky, rfl⟩ := one_kid L (show r.len = 1 by simp only [Exs.len] at h; omega)
    exact ⟨x, kx, y, ky, rfl⟩
theorem bin_parts (h : EH) (k : Exs) (hR : RX rn cn h k) (hk : h.kind = 7) : ∃ (op : Int) (lv : Nat) (x : EH) (kx : Exs) (y : EH) (ky : Exs), h = ⟨7, op, [], [], 0, 0⟩ ∧ k = .cons x kx (.cons y ky .nil) ∧ 1 ≤ lv ∧ lv ≤ 5 ∧ opOf (mk2 op) = (op, lv) ∧ mk2 op ≠ [46] ∧ mk2 op ≠ [40] ∧ level h = (lv : Int) ∧
    kidL h true = (if lv = 3 then 4 else (lv : Int)) ∧ kidL h false = (lv : Int) + 1 ∧ kidD h = 0 := by
  obtain ⟨hfit, hnm, hlen, hL⟩ := fits_of L hR
  obtain ⟨kind, op, mod, name, vt, vb⟩ := h
  simp only at hk
  subst hk
  simp [fitsE] at hfit
  obtain ⟨o1, o2, h2, rfl, rfl, rfl, rfl⟩ := hfit
  obtain ⟨x, kx, y, ky, rfl⟩ := two_kids L h2
  obtain ⟨lv, e1, e2, e3, e4, e5, e6⟩ := mk2_op o1 o2
  refine ⟨op, lv, x, kx, y, ky, rfl, rfl, e2, e3, e4, e5, e6, by simp [level, e1], ?_, ?_, by simp [kidD]⟩
  · simp only [kidL, side, e1]
    by_cases h3 : lv = 3
    · subst h3; simp
    · simp only [if_neg h3]
      rw [if_neg (by decide), if_pos trivial, if_neg (by omega), if_neg (fun h => by rcases h with h | h; (cases h); (omega))]
  · simp only [kidL, side, e1]
    rw [if_neg (by decide), if_pos trivial, if_neg (by omega), if_pos (Or.inl trivial)]
theorem bin_toks (op : Int) (x : EH) (kx : Exs) (y : EH) (ky : Exs) (rest : List Tok) : kB tx ⟨7, op, [], [], 0, 0⟩ (.cons x kx (.cons y ky .nil)) ++ rest = kA tx x kx (kidL ⟨7, op, [], [], 0, 0⟩ true) ++ (tM (mk2 op) :: (kA tx y ky (kidL ⟨7, op, [], [], 0, 0⟩ false) ++ rest)) := by
  simp [kB, kP, kK, kPo, kSe, kA]
theorem chain (h : EH) (k : Exs) (hR : RX rn cn h k) (hN : NnX k) (hk : h.kind = 7) (m : Nat) (hm : m ≤ 4) (hm2 : m ≠ 2) (hlv : level h = ((5 - m : Nat) : Int)) (IH : ∀ h' k', RX rn cn h' k' → 0 ≤ h'.vb → NnX k' → k'.size < k.size → Kid tx h' k' ∧ Chn tx h' k') (f g d : Nat) (rest : List Tok)
    (h1 : (kB tx h k ++ rest).length ≤ f + 1) (h2 : (kB tx h k ++ rest).length ≤ g) (hd : d ≤ 32) (hD : dB h k (d : Int) ≤ 32) (hF : Fin (6 - m) rest) :
    ∃ g', rest.length ≤ g' ∧ two (expr f) g (m + 1) false d (kB tx h k ++ rest) = lp (two (expr f) g m false d) (5 - m) g' (h, k) rest := by
  obtain ⟨_, _, _, hL⟩ := fits_of L hR
  obtain ⟨op, lv, x, kx, y, ky, rfl, rfl, l1, l2, hop, n1, n2, hl, kL1, kL2, kD⟩ := bin_parts L h k hR hk
  obtain rfl : 5 - m = lv := by omega
  obtain ⟨hRx, hL2⟩ := RX_kid hL
  obtain ⟨hRy, _⟩ := RX_kid hL2
  rw [if_neg (by omega)] at kL1
  obtain ⟨_, dx, a2, hD2⟩ := dK_cons (by omega) (by omega) hD
  obtain ⟨_, dy, _, _⟩ := dK_cons (by omega) (by omega) hD2
  rw [kL1, kD, Int.add_zero] at dx
  rw [kL2, kD, Int.add_zero] at dy
  rw [bin_toks L, kL1, kL2] at h1 h2 ⊢
  have hFm : Fin (6 - m) (tM (mk2 op) :: (kA tx y ky (((5 - m : Nat) : Int) + 1) ++ rest)) := fin_t _ _ _ n1 n2 (by show (opOf (mk2 op)).2 < 6 - m; rw [hop]; simp only; omega)
  obtain ⟨g1, hg1, e1⟩ := (IH x kx hRx hN.1 hN.2.1 (by simp only [Exs.size]; omega)).2 f g d m _ hm hm2 h1 h2 hd dx hFm
  rw [e1]
  simp only [List.length_cons, List.length_append] at hg1 h1 h2
  obtain ⟨g2, rfl⟩ : ∃ x, g1 = x + 1 := ⟨g1 - 1, by omega⟩
  have e6 : ((5 - m : Nat) : Int) + 1 = ((6 - m : Nat) : Int) := by omega
  rw [e6] at dy h1 h2 hg1 ⊢
  have hy := (IH y ky hRy hN.2.2.1 hN.2.2.2.1 (by simp only [Exs.size]; omega)).1 f g d m rest (by omega) (by simp only [List.length_append]; omega) (by simp only [List.length_append]; omega) hd dy hF
  refine ⟨g2, by omega, ?_⟩
  rw [lp, if_neg (by show ¬ (opOf (mk2 op)).2 ≠ 5 - m; rw [hop]; simp), hy, bd_ok, if_neg (by omega)]
  show lp _ _ g2 (bin (opOf (mk2 op)).1 (x, kx) (y, ky)) rest = _
  rw [hop]
  rfl
theorem comp (h : EH) (k : Exs) (hR : RX rn cn h k) (hN : NnX k) (hk : h.kind = 7) (hlv : level h = 3) (IH : ∀ h' k', RX rn cn h' k' → 0 ≤ h'.vb → NnX k' → k'.size < k.size → Kid tx h' k' ∧ Chn tx h' k') (f g d : Nat) (rest : List Tok)
    (h1 : (kB tx h k ++ rest).length ≤ f + 1) (h2 : (kB tx h k ++ rest).length ≤ g) (hd : d ≤ 32) (hD : dB h k (d : Int) ≤ 32) (hF : Fin 4 rest) :
    two (expr f) g 3 false d (kB tx h k ++ rest) = some (.ok (h, k) rest) := by
  obtain ⟨_, _, _, hL⟩ := fits_of L hR
  obtain ⟨op, lv, x, kx, y, ky, rfl, rfl, l1, l2, hop, n1, n2, hl, kL1, kL2, kD⟩ := bin_parts L h k hR hk
  obtain rfl : lv = 3 := by omega
  obtain ⟨hRx, hL2⟩ := RX_kid hL
  obtain ⟨hRy, _⟩ := RX_kid hL2
  rw [if_pos rfl] at kL1
  obtain ⟨_, dx, a2, hD2⟩ := dK_cons (by omega) (by omega) hD
  obtain ⟨_, dy, _, _⟩ := dK_cons (by omega) (by omega) hD2
  rw [kL1, kD, Int.add_zero] at dx
  rw [kL2, kD, Int.add_zero] at dy
  have e4 : ((3 : Nat) : Int) + 1 = ((6 - 2 : Nat) : Int) := by decide
  have e4' : (4 : Int) = ((6 - 2 : Nat) : Int) := by decide
  rw [bin_toks L, kL1, kL2] at h1 h2 ⊢
  rw [e4] at dy h1 h2 ⊢
  rw [e4'] at dx h1 h2 ⊢
  have hF2 : Fin (6 - 2) (tM (mk2 op) :: (kA tx y ky ((6 - 2 : Nat) : Int) ++ rest)) := fin_t _ _ _ n1 n2 (by show (opOf (mk2 op)).2 < 6 - 2; rw [hop]; simp only; omega)
  have hx := (IH x kx hRx hN.1 hN.2.1 (by simp only [Exs.size]; omega)).1 f g d 2 _ (by omega) h1 h2 hd dx hF2
  simp only [List.length_cons, List.length_append] at h1 h2
  have hy := (IH y ky hRy hN.2.2.1 hN.2.2.2.1 (by simp only [Exs.size]; omega)).1 f g d 2 rest (by omega) (by simp only [List.length_append]; omega) (by simp only [List.length_append]; omega) hd dy hF
  obtain ⟨g2, rfl⟩ : ∃ x, g = x + 1 := ⟨g - 1, by omega⟩
  rw [two, hx, bd_ok, lp, if_neg (by show ¬ (opOf (mk2 op)).2 ≠ 5 - 2; rw [hop]; simp), hy, bd_ok, if_pos (by rfl)]
  show some (Rs.ok (bin (opOf (mk2 op)).1 (x, kx) (y, ky)) rest) = _
  rw [hop]
  rfl
theorem bin_of (h : EH) (k : Exs) (hR : RX rn cn h k) (hl : level h < 6) : h.kind = 7 := by
  obtain ⟨hfit, _, _, _⟩ := fits_of L hR
  unfold level at hl
  by_cases e : h.kind = 6
  · rw [if_pos e] at hl
    split at hl <;> omega
  · rw [if_neg e] at hl
    by_cases e7 : h.kind = 7
    · exact e7
    · rw [if_neg e7] at hl; omega
theorem bare (h : EH) (k : Exs) (hR : RX rn cn h k) (h0 : 0 ≤ h.vb) (hN : NnX k) (IH : ∀ h' k', RX rn cn h' k' → 0 ≤ h'.vb → NnX k' → k'.size < k.size → Kid tx h' k' ∧ Chn tx h' k') (IHU : ∀ h' k', RX rn cn h' k' → 0 ≤ h'.vb → NnX k' → k'.size < k.size → Kid tx h' k' ∧ KidU tx h' k') (f g d n : Nat) (hn : n ≤ 5) (hl : ((6 - n : Nat) : Int) ≤ level h) (rest : List Tok)
    (h1 : (kB tx h k ++ rest).length ≤ f + 1) (h2 : (kB tx h k ++ rest).length ≤ g) (hd : d ≤ 32) (hD : dB h k (d : Int) ≤ 32) (hF : Fin (6 - n) rest) :
    two (expr f) g n false d (kB tx h k ++ rest) = some (.ok (h, k) rest) := by
  have hg : 0 < g := by
    obtain ⟨t, r, rfl, _⟩ := hF
    simp only [List.length_append, List.length_cons] at h2
    omega
  by_cases h6 : 6 ≤ level h
  · have h00 : two (expr f) g 0 false d (kB tx h k ++ rest) = some (.ok (h, k) rest) := by
      rw [two]
      exact bareU L h k hR h0 hN h6 IHU f g g d rest h1 h2 h2 hd hD (hF.mono (by omega))
    exact two_up hg h00 n (by omega) hn hF
  · have hk := bin_of L h k hR (by omega)
    obtain ⟨op, lv, _, _, _, _, _, _, l1, l2, _, _, _, hlv, _⟩ := bin_parts L h k hR hk
    by_cases h3 : lv = 3
    · subst h3
      have hc := comp L h k hR hN hk hlv IH f g d rest h1 h2 hd hD (hF.mono (by omega))
      exact two_up hg hc n (by omega) hn hF
    · obtain ⟨g', hg', e⟩ := chain L h k hR hN hk (5 - lv) (by omega) (by omega) (by rw [hlv]; congr 1; omega) IH f g d rest h1 h2 hd hD (hF.mono (by omega))
      have hc : two (expr f) g (5 - lv + 1) false d (kB tx h k ++ rest) = some (.ok (h, k) rest) := by
        rw [e]
        obtain ⟨t, r, rfl, t1, t2, t3⟩ := hF
        simp only [List.length_cons] at hg'
        obtain ⟨g2, rfl⟩ : ∃ x, g' = x + 1 := ⟨g' - 1, by omega⟩
        rw [lp, if_pos (by omega)]
      exact two_up hg hc n (by omega) hn hF
theorem paren (h : EH) (k : Exs) (hR : RX rn cn h k) (h0 : 0 ≤ h.vb) (hN : NnX k) (IH : ∀ h' k', RX rn cn h' k' → 0 ≤ h'.vb → NnX k' → k'.size < k.size → Kid tx h' k' ∧ Chn tx h' k') (IHU : ∀ h' k', RX rn cn h' k' → 0 ≤ h'.vb → NnX k' → k'.size < k.size → Kid tx h' k' ∧ KidU tx h' k') (f g f' d : Nat) (rest : List Tok)
    (h1 : (tM [40] :: (kB tx h k ++ [tM [41]]) ++ rest).length ≤ f + 1) (h3 : 0 < f') (hd : d + 1 ≤ 32) (hD : dB h k ((d : Int) + 1) ≤ 32) :
    un (expr f) g f' false d (tM [40] :: (kB tx h k ++ [tM [41]]) ++ rest) = some (.ok (h, k) rest) := by
  have hl := level_r h
  have hT : tM [40] :: (kB tx h k ++ [tM [41]]) ++ rest = tM [40] :: (kB tx h k ++ tM [41] :: rest) := by simp
  rw [hT] at h1 ⊢
  simp only [List.length_cons, List.length_append] at h1
  obtain ⟨f', rfl⟩ : ∃ x, f' = x + 1 := ⟨f' - 1, by omega⟩
  obtain ⟨f, rfl⟩ : ∃ x, f = x + 1 := ⟨f - 1, by omega⟩
  have hE : expr (f + 1) false (d + 1) (kB tx h k ++ tM [41] :: rest) = some (.ok (h, k) (tM [41] :: rest)) := by
    rw [expr]
    exact bare L h k hR h0 hN IH IHU f (f + 1) (d + 1) 5 (by omega) (by show ((6 - 5 : Nat) : Int) ≤ level h; omega) (tM [41] :: rest) (by simp only [List.length_append, List.length_cons]; omega) (by simp only [List.length_append, List.length_cons]; omega) (by omega) (by exact_mod_cast hD) (fin_t _ _ _ (by decide) (by decide) (by decide))
  rw [un_pr (by decide) (by decide), pr, if_neg (by decide), if_neg (by decide), if_neg (by decide), if_neg (by decide), if_neg (by decide), if_neg (by decide), if_neg (by decide), if_neg (by decide), if_neg (by decide), ins, opn, if_pos (by rfl), if_neg (by omega), if_neg (by decide), bd_ok, hE, bd_ok, must, if_pos (by rfl), if_neg (by decide), bd_ok]
theorem kA_pos {h : EH} {k : Exs} {least : Int} (hl : level h < least) : kA tx h k least = tM [40] :: (kB tx h k ++ [tM [41]]) := by
  unfold kA kPar
  rw [if_pos (by simpa using hl)]
theorem kA_neg {h : EH} {k : Exs} {least : Int} (hl : ¬ level h < least) : kA tx h k least = kB tx h k := by
  unfold kA kPar
  rw [if_neg (by simpa using hl)]
theorem kids : ∀ (n : Nat) (h : EH) (k : Exs), k.size < n → RX rn cn h k → 0 ≤ h.vb → NnX k → Kid tx h k ∧ KidU tx h k ∧ Chn tx h k := by
  intro n
  induction n with
  | zero => intro h k hn; omega
  | succ n ih =>
    intro h k hs hR h0 hN
    have IH : ∀ h' k', RX rn cn h' k' → 0 ≤ h'.vb → NnX k' → k'.size < k.size → Kid tx h' k' ∧ Chn tx h' k' := fun h' k' r1 r2 r3 r4 => ⟨(ih h' k' (by omega) r1 r2 r3).1, (ih h' k' (by omega) r1 r2 r3).2.2⟩
    have IHU : ∀ h' k', RX rn cn h' k' → 0 ≤ h'.vb → NnX k' → k'.size < k.size → Kid tx h' k' ∧ KidU tx h' k' := fun h' k' r1 r2 r3 r4 => ⟨(ih h' k' (by omega) r1 r2 r3).1, (ih h' k' (by omega) r1 r2 r3).2.1⟩
    have pos : ∀ {lv : Nat} {rest : List Tok} {T : List Tok}, Fin lv rest → 0 < (T ++ rest).length := by
      intro lv rest T hF
      obtain ⟨t, r, rfl, _⟩ := hF
      simp only [List.length_append, List.length_cons]
      omega
    have hU : KidU tx h k := by
      intro f g f' d rest h1 h2 h3 hd hD hF
      by_cases hl : level h < 6
      · rw [kA_pos L hl] at h1 h2 h3 ⊢
        obtain ⟨d1, d2⟩ := dX_par (by omega) (by omega) hD hl
        exact paren L h k hR h0 hN IH IHU f g f' d rest h1 (by have := pos (T := tM [40] :: (kB tx h k ++ [tM [41]])) hF; omega) (by omega) d2
      · rw [kA_neg L hl] at h1 h2 h3 ⊢
        exact bareU L h k hR h0 hN (by omega) IHU f g f' d rest h1 h2 h3 hd (dX_no hD hl) hF
    have hK : Kid tx h k := by
      intro f g d n rest hn h1 h2 hd hD hF
      by_cases hl : level h < ((6 - n : Nat) : Int)
      · rw [kA_pos L hl] at h1 h2 ⊢
        obtain ⟨d1, d2⟩ := dX_par (by omega) (by omega) hD hl
        have hg := pos (T := tM [40] :: (kB tx h k ++ [tM [41]])) hF
        have h00 : two (expr f) g 0 false d (tM [40] :: (kB tx h k ++ [tM [41]]) ++ rest) = some (.ok (h, k) rest) := by
          rw [two]
          exact paren L h k hR h0 hN IH IHU f g g d rest h1 (by omega) (by omega) d2
        exact two_up (by omega) h00 n (by omega) hn hF
      · rw [kA_neg L hl] at h1 h2 ⊢
        exact bare L h k hR h0 hN IH IHU f g d n hn (by omega) rest h1 h2 hd (dX_no hD hl) hF
    refine ⟨hK, hU, ?_⟩
    intro f g d m rest hm hm2 h1 h2 hd hD hF
    by_cases he : level h = ((5 - m : Nat) : Int)
    · have hl : ¬ level h < ((5 - m : Nat) : Int) := by omega
      rw [kA_neg L hl] at h1 h2 ⊢
      exact chain L h k hR hN (bin_of L h k hR (by omega)) m hm hm2 he IH f g d rest h1 h2 hd (dX_no hD hl) hF
    · have eA : kA tx h k ((5 - m : Nat) : Int) = kA tx h k ((6 - m : Nat) : Int) := by
        by_cases hl : level h < ((5 - m : Nat) : Int)
        · rw [kA_pos L hl, kA_pos L (by omega)]
        · rw [kA_neg L hl, kA_neg L (by omega)]
      have eD : dX h k ((5 - m : Nat) : Int) (d : Int) = dX h k ((6 - m : Nat) : Int) (d : Int) := by
        unfold dX inAt
        by_cases hl : level h < ((5 - m : Nat) : Int)
        · rw [if_pos hl, if_pos (by omega)]
        · rw [if_neg hl, if_neg (by omega)]
      rw [eA] at h1 h2 ⊢
      rw [eD] at hD
      refine ⟨g, by simp only [List.length_append] at h2; omega, ?_⟩
      rw [two, hK f g d m rest (by omega) h1 h2 hd hD hF, bd_ok]
end
end Pz
end Go.Proofs.YteijjaabngkbjaaGreatDoor
namespace Go.Proofs.YteijjaabngkbjaaGreatDoor
set_option linter.unusedSimpArgs false
set_option linter.unusedVariables false
namespace Pz
open Lx Te
open Go.RowKit (wrap64)
section
variable (tx : Int → Int → Bs)
end
def NnS : Sts → Prop
  | .nil => True
  | .cons _ e b l r => NnX e ∧ NnS b ∧ NnS l ∧ NnS r
section
variable {rn : Bs → Int} {cn : Int → Int} {tx : Int → Int → Bs} (L : Law rn cn tx)
include L
end
end Pz
end Go.Proofs.YteijjaabngkbjaaGreatDoor
namespace Go.Proofs.YteijjaabngkbjaaGreatDoor
set_option linter.unusedSimpArgs false
set_option linter.unusedVariables false
namespace Pz
open Lx Te
section
variable (tx : Int → Int → Bs)
end
def NnD (d : De) : Prop := NnX d.e ∧ NnS d.body
section
variable {rn : Bs → Int} {cn : Int → Int} {tx : Int → Int → Bs} (L : Law rn cn tx) (hEl : ∀ x, rn x = 0 → x ≠ [101, 108, 115, 101])
include L
include hEl
end
end Pz
end Go.Proofs.YteijjaabngkbjaaGreatDoor
namespace Go.Proofs.YteijjaabngkbjaaGreatDoor
set_option linter.unusedSimpArgs false
set_option linter.unusedVariables false
namespace Pz
open Lx Te
abbrev Al (a b : List Tok) : Prop := a.map Tok.core = b.map Tok.core
def Rl {α : Type} (m m' : Ou α) : Prop :=
  match m, m' with
  | none, none => True
  | some (.er _ c), some (.er _ c') => c = c'
  | some (.ok a ts), some (.ok a' ts') => a = a' ∧ Al ts ts'
  | _, _ => False
theorem Rl.bd {α β : Type} {m m' : Ou α} {k k' : α → List Tok → Ou β} (h : Rl m m') (hk : ∀ a ts ts', Al ts ts' → Rl (k a ts) (k' a ts')) : Rl (bd m k) (bd m' k') := by
  match m, m', h with
  | none, none, _ => exact trivial
  | some (.er p c), some (.er p' c'), h => exact h
  | some (.ok a ts), some (.ok a' ts'), ⟨e, h⟩ => subst e; exact hk a ts ts' h
theorem Rl.ite {α : Type} {c : Prop} [Decidable c] {a a' b b' : Ou α} (h1 : Rl a a') (h2 : Rl b b') : Rl (if c then a else b) (if c then a' else b') := by
  split
  · exact h1
  · exact h2
theorem Rl.ok {α : Type} (a : α) {ts ts' : List Tok} (h : Al ts ts') : Rl (some (.ok a ts)) (some (.ok a ts')) := ⟨rfl, h⟩
theorem Rl.er {α : Type} (p p' : Nat) (c : Int) : Rl (some (.er p c) : Ou α) (some (.er p' c)) := rfl
theorem Al.two {a b : List Tok} (h : Al a b) : (a = [] ∧ b = []) ∨ ∃ t t' r r', a = t :: r ∧ b = t' :: r' ∧ t.k = t'.k ∧ t.x = t'.x ∧ t.ty = t'.ty ∧ t.b = t'.b ∧ Al r r' := by
  match a, b, h with
  | [], [], _ => exact Or.inl ⟨rfl, rfl⟩
  | [], _ :: _, h => simp [Al] at h
  | _ :: _, [], h => simp [Al] at h
  | t :: r, t' :: r', h =>
    simp only [Al, List.map_cons, List.cons.injEq, Tok.core, Prod.mk.injEq] at h
    exact Or.inr ⟨t, t', r, r', rfl, rfl, h.1.1, h.1.2.1, h.1.2.2.1, h.1.2.2.2, h.2⟩
theorem Al.cons {t t' : Tok} {r r' : List Tok} (h1 : t.k = t'.k) (h2 : t.x = t'.x) (h3 : t.ty = t'.ty) (h4 : t.b = t'.b) (h : Al r r') : Al (t :: r) (t' :: r') := by
  simp only [Al, List.map_cons, List.cons.injEq, Tok.core, Prod.mk.injEq]
  exact ⟨⟨h1, h2, h3, h4⟩, h⟩
def AE (E : Bool → Nat → List Tok → Ou Ex) : Prop := ∀ fl d a b, Al a b → Rl (E fl d a) (E fl d b)
section
variable {E : Bool → Nat → List Tok → Ou Ex} (hE : AE E)
include hE
end
section
variable {E : Nat → List Tok → Ou Ex} (hE : ∀ d a b, Al a b → Rl (E d a) (E d b))
include hE
variable {C : Nat → Ex → List Tok → Ou Ex} (hC : ∀ d e a b, Al a b → Rl (C d e a) (C d e b))
variable {B : Nat → List Tok → Ou Sts} (hB : ∀ d a b, Al a b → Rl (B d a) (B d b))
end
section
variable {E : Nat → List Tok → Ou Ex} (hE : ∀ d a b, Al a b → Rl (E d a) (E d b))
variable {B : Nat → List Tok → Ou Sts} (hB : ∀ d a b, Al a b → Rl (B d a) (B d b)) (g : Nat)
include hE hB
end
end Pz
end Go.Proofs.YteijjaabngkbjaaGreatDoor
namespace Go.Proofs.YteijjaabngkbjaaGreatDoor
set_option linter.unusedSimpArgs false
set_option linter.unusedVariables false
namespace Pz
open Lx Te
def Sz {α : Type} (f : α → Nat) (n : Nat) : Ou α → Prop
  | some (.ok a ts) => f a + ts.length ≤ n
  | _ => True
theorem Sz.ok {α : Type} {f : α → Nat} {n : Nat} {a : α} {ts : List Tok} (h : f a + ts.length ≤ n) : Sz f n (some (.ok a ts)) := h
theorem Sz.bd {α β : Type} {f : α → Nat} {f' : β → Nat} {n n' : Nat} {m : Ou α} {k : α → List Tok → Ou β} (h : Sz f n m) (hk : ∀ a ts, f a + ts.length ≤ n → Sz f' n' (k a ts)) : Sz f' n' (bd m k) := by
  rcases m with _ | ⟨a, ts⟩ | ⟨p, c⟩
  · trivial
  · exact hk a ts h
  · trivial
theorem Sz.mono {α : Type} {f f' : α → Nat} {n n' : Nat} {m : Ou α} (h : Sz f n m) (hk : ∀ a k, f a + k ≤ n → f' a + k ≤ n') : Sz f' n' m := by
  rcases m with _ | ⟨a, ts⟩ | ⟨p, c⟩
  · trivial
  · exact hk a _ h
  · trivial
theorem Sz.ite {α : Type} {f : α → Nat} {n : Nat} {c : Prop} [Decidable c] {a b : Ou α} (h1 : c → Sz f n a) (h2 : ¬ c → Sz f n b) : Sz f n (if c then a else b) := by
  split
  · exact h1 ‹_›
  · exact h2 ‹_›
theorem Exs.app_sz : ∀ (x y : Exs), (x.app y).size = x.size + y.size
  | .nil, y => by simp [Exs.app, Exs.size]
  | .cons h k r, y => by simp only [Exs.app, Exs.size, Exs.app_sz r y]; omega
theorem Sts.app_sz : ∀ (x y : Sts), (x.app y).size = x.size + y.size
  | .nil, y => by simp [Sts.app, Sts.size]
  | .cons h e b l r, y => by simp only [Sts.app, Sts.size, Sts.app_sz r y]; omega
def o1 {α : Type} (_ : α) : Nat := 1
def o0 {α : Type} (_ : α) : Nat := 0
theorem must_sz (s : Bs) (fl : Bool) (ts : List Tok) : Sz o1 ts.length (must s fl ts) := by
  cases ts with
  | nil => trivial
  | cons t r =>
    unfold must
    exact Sz.ite (fun _ => Sz.ite (fun _ => trivial) (fun hf => Sz.ok (by simp [o1]; omega))) (fun _ => trivial)
theorem has_sz (s : Bs) (fl : Bool) (ts : List Tok) : Sz o0 ts.length (has s fl ts) := by
  cases ts with
  | nil => trivial
  | cons t r =>
    unfold has
    exact Sz.ite (fun _ => Sz.ite (fun _ => trivial) (fun hf => Sz.ok (by simp [o0]))) (fun _ => Sz.ok (by simp [o0]))
theorem name_sz (fl : Bool) (ts : List Tok) : Sz o1 ts.length (name fl ts) := by
  cases ts with
  | nil => trivial
  | cons t r =>
    unfold name
    exact Sz.ite (fun _ => Sz.ite (fun _ => trivial) (fun hf => Sz.ok (by simp [o1]; omega))) (fun _ => trivial)
theorem opn_sz (s : Bs) (fl : Bool) (d : Nat) (ts : List Tok) : Sz o1 ts.length (opn s fl d ts) := by
  cases ts with
  | nil => trivial
  | cons t r =>
    unfold opn
    exact Sz.ite (fun _ => Sz.ite (fun _ => trivial) (fun _ => Sz.ite (fun _ => trivial) (fun hf => Sz.ok (by simp [o1]; omega)))) (fun _ => trivial)
def fE (e : Ex) : Nat := e.2.size + 1
theorem refr_sz (fl : Bool) (ts : List Tok) : Sz fE ts.length (refr fl ts) := by
  unfold refr
  refine (name_sz fl ts).bd fun n ts1 h1 => (has_sz _ _ _).bd fun b ts2 h2 => Sz.ite (fun _ => (name_sz _ _).bd fun m ts3 h3 => Sz.ok ?_) (fun _ => Sz.ok ?_)
  all_goals (simp only [o1, o0, fE, Exs.size] at *; omega)
section
variable {E : Bool → Nat → List Tok → Ou Ex}
def SE (E : Bool → Nat → List Tok → Ou Ex) : Prop := ∀ fl d ts, Sz fE ts.length (E fl d ts)
theorem ins_sz (hE : SE E) (fl : Bool) (d : Nat) (ts : List Tok) : Sz (fun e => fE e + 2) ts.length (ins E fl d ts) := by
  unfold ins
  refine (opn_sz _ _ _ _).bd fun _ ts1 h1 => (hE _ _ _).bd fun e ts2 h2 => (must_sz _ _ _).bd fun _ ts3 h3 => Sz.ok ?_
  simp only [o1] at *; omega
theorem rwE_sz (hE : SE E) (d : Nat) : ∀ (g : Nat) (acc : Exs) (ts : List Tok), Sz Exs.size (acc.size + ts.length) (rwE E d g acc ts) := by
  intro g
  induction g with
  | zero => intro acc ts; trivial
  | succ g ih =>
    intro acc ts
    cases ts with
    | nil => trivial
    | cons t r =>
      unfold rwE
      refine Sz.ite (fun _ => ?_) (fun _ => Sz.ok (Nat.le_refl _))
      refine (hE _ d r).bd fun e ts h => (ih _ ts).mono fun a k hk => ?_
      rw [Exs.app_sz] at hk
      simp only [Exs.size, fE, List.length_cons] at *
      omega
theorem args_sz (hE : SE E) (g d : Nat) (ts : List Tok) : Sz (fun l => l.size + 2) ts.length (args E g d ts) := by
  unfold args
  split
  · refine Sz.ite (fun _ => Sz.ok (by simp [Exs.size]; omega)) (fun _ => ?_)
    refine (opn_sz _ _ _ _).bd fun _ ts1 h1 => (hE _ _ _).bd fun e ts2 h2 => (rwE_sz hE _ g _ _).bd fun l ts3 h3 => (must_sz _ _ _).bd fun _ ts4 h4 => Sz.ok ?_
    simp only [o1, Exs.size, fE] at *; omega
  · exact Sz.ite (fun _ => trivial) (fun _ => trivial)
  · trivial
theorem call_sz (hE : SE E) (g d : Nat) (e : Ex) (ts : List Tok) : Sz fE ts.length (call E g d e ts) := by
  unfold call
  refine (args_sz hE g d ts).bd fun l ts1 h1 => Sz.ok ?_
  simp only [fE] at *; omega
theorem pr_sz (hE : SE E) (g : Nat) (fl : Bool) (d : Nat) (ts : List Tok) : Sz fE ts.length (pr E g fl d ts) := by
  unfold pr
  split
  · trivial
  rename_i t r
  have lf : ∀ {x : Ex}, x.2 = .nil → Sz fE (t :: r).length (if fl then some (.er t.p 3) else some (.ok x r)) :=
    fun hx => Sz.ite (fun _ => trivial) (fun hf => Sz.ok (by simp only [fE, hx, Exs.size, List.length_cons]; omega))
  refine Sz.ite (fun hk => lf rfl) (fun _ => ?_)
  refine Sz.ite (fun hk => ?_) (fun _ => ?_)
  · refine (refr_sz fl _).bd fun e ts h => ?_
    cases ts with
    | nil => trivial
    | cons u r' => exact Sz.ite (fun _ => (call_sz hE g d e _).mono fun a k hk => by omega) (fun _ => Sz.ok h)
  refine Sz.ite (fun _ => lf rfl) (fun _ => ?_)
  refine Sz.ite (fun _ => lf rfl) (fun _ => ?_)
  refine Sz.ite (fun _ => lf rfl) (fun _ => ?_)
  refine Sz.ite (fun _ => lf rfl) (fun _ => ?_)
  refine Sz.ite (fun _ => lf rfl) (fun _ => ?_)
  have cv : ∀ op : Int, Sz fE (t :: r).length (if fl then some (.er t.p 3) else bd (ins E false d r) fun e ts => some (.ok (one op e) ts)) :=
    fun op => Sz.ite (fun _ => trivial) (fun hf => (ins_sz hE false d r).bd fun e ts h => Sz.ok (by simp only [fE, one, Exs.size, List.length_cons] at *; omega))
  refine Sz.ite (fun _ => cv 3) (fun _ => ?_)
  refine Sz.ite (fun _ => cv 4) (fun _ => ?_)
  exact (ins_sz hE fl d _).mono fun a k hk => by omega
theorem un_sz (hE : SE E) (g : Nat) : ∀ (f : Nat) (fl : Bool) (d : Nat) (ts : List Tok), Sz fE ts.length (un E g f fl d ts) := by
  intro f
  induction f with
  | zero => intro fl d ts; trivial
  | succ f ih =>
    intro fl d ts
    cases ts with
    | nil => trivial
    | cons t r =>
      unfold un
      have cv : ∀ (s : Bs) (op : Int), Sz fE (t :: r).length (bd (opn s fl d (t :: r)) fun _ ts => bd (un E g f false (d + 1) ts) fun e ts => some (.ok (one op e) ts)) :=
        fun s op => (opn_sz _ _ _ _).bd fun _ ts1 h1 => (ih false (d + 1) ts1).bd fun e ts h => Sz.ok (by simp only [o1, fE, one, Exs.size, List.length_cons] at *; omega)
      exact Sz.ite (fun _ => cv _ _) (fun _ => Sz.ite (fun _ => cv _ _) (fun _ => pr_sz hE g fl d _))
end
theorem lp_sz {N : List Tok → Ou Ex} (lv : Nat) (hN : ∀ ts, Sz fE ts.length (N ts)) : ∀ (f : Nat) (e : Ex) (ts : List Tok), Sz fE (fE e + ts.length) (lp N lv f e ts) := by
  intro f
  induction f with
  | zero => intro e ts; trivial
  | succ f ih =>
    intro e ts
    cases ts with
    | nil => trivial
    | cons t r =>
      unfold lp
      refine Sz.ite (fun _ => Sz.ok (Nat.le_refl _)) (fun hop => (hN r).bd fun e2 ts h => ?_)
      have hb : fE (bin (opOf t.x).1 e e2) + ts.length ≤ fE e + (t :: r).length := by simp only [fE, bin, Exs.size, List.length_cons] at *; omega
      exact Sz.ite (fun _ => Sz.ok hb) (fun _ => (ih _ ts).mono fun a k hk => by omega)
theorem two_sz {E : Bool → Nat → List Tok → Ou Ex} (hE : SE E) (g : Nat) : ∀ (n : Nat) (fl : Bool) (d : Nat) (ts : List Tok), Sz fE ts.length (two E g n fl d ts) := by
  intro n
  induction n with
  | zero => intro fl d ts; exact un_sz hE g g fl d ts
  | succ n ih =>
    intro fl d ts
    unfold two
    exact (ih fl d ts).bd fun e ts h => (lp_sz _ (fun ts => ih false d ts) g e ts).mono fun a k hk => by omega
theorem expr_sz : ∀ (f : Nat), SE (expr f)
  | 0 => fun _ _ _ => trivial
  | f + 1 => fun fl d ts => two_sz (expr_sz f) (f + 1) 5 fl d ts
def fS (s : St) : Nat := s.2.1.size + s.2.2.1.size + s.2.2.2.size + 1
section
variable {E : Nat → List Tok → Ou Ex} {C : Nat → Ex → List Tok → Ou Ex} {B : Nat → List Tok → Ou Sts} (hE : ∀ d ts, Sz fE ts.length (E d ts)) (hC : ∀ d e ts, Sz fE ts.length (C d e ts)) (hB : ∀ d ts, Sz Sts.size ts.length (B d ts))
include hE in
theorem lone_sz (d : Nat) (ts : List Tok) : Sz Exs.size ts.length (lone E d ts) :=
  (hE d ts).bd fun e ts h => Sz.ok (by simp only [fE, Exs.size] at *; omega)
theorem ended_sz (kind : Int) (n : Bs) (e : Exs) (ts : List Tok) : Sz fS (e.size + ts.length) (ended kind n e ts) :=
  (must_sz _ _ _).bd fun _ ts h => Sz.ok (by simp only [o1, fS, Sts.size] at *; omega)
include hE in
theorem asg_sz (d : Nat) (kind : Int) (n : Bs) (ts : List Tok) : Sz fS ts.length (asg E d kind n ts) :=
  (must_sz _ _ _).bd fun _ ts1 h1 => (lone_sz hE d ts1).bd fun e ts2 h2 => (ended_sz kind n e ts2).mono fun a k hk => by simp only [o1] at *; omega
include hE hC in
theorem named_sz (d : Nat) (ts : List Tok) : Sz fS ts.length (named E C d ts) := by
  unfold named
  refine (refr_sz false ts).bd fun e ts1 h1 => ?_
  cases ts1 with
  | nil => trivial
  | cons u r =>
    refine Sz.ite (fun _ => (asg_sz hE d 2 _ _).mono fun a k hk => by omega) (fun _ => ?_)
    exact (hC d e _).bd fun c ts2 h2 => (ended_sz 9 [] _ ts2).mono fun a k hk => by simp only [fE, Exs.size] at *; omega
include hE hB in
theorem branch_sz (d : Nat) (ts : List Tok) : Sz (fun s => s.2.1.size + s.2.2.1.size + s.2.2.2.size) ts.length (branch E B d ts) := by
  unfold branch
  refine (lone_sz hE d ts).bd fun e ts1 h1 => (hB d ts1).bd fun b ts2 h2 => (has_sz _ _ _).bd fun y ts3 h3 => Sz.ite (fun _ => (hB d ts3).bd fun l ts4 h4 => Sz.ok ?_) (fun _ => Sz.ok ?_)
  all_goals (simp only [o0, Sts.size] at *; omega)
include hE hB in
theorem while_sz (d : Nat) (ts : List Tok) : Sz (fun s => s.2.1.size + s.2.2.1.size + s.2.2.2.size) ts.length (while_ E B d ts) := by
  unfold while_
  refine (lone_sz hE d ts).bd fun e ts1 h1 => (hB d ts1).bd fun b ts2 h2 => Sz.ok ?_
  simp only [Sts.size] at *; omega
include hE in
theorem returned_sz (d : Nat) (ts : List Tok) : Sz fS ts.length (returned E d ts) := by
  unfold returned
  split
  · trivial
  exact Sz.ite (fun _ => (ended_sz 5 [] _ _).mono fun a k hk => by simp only [Exs.size] at *; omega) (fun _ => (lone_sz hE d _).bd fun e ts h => (ended_sz 5 [] e ts).mono fun a k hk => by omega)
include hB in
theorem tried_sz (d : Nat) (ts : List Tok) : Sz (fun s => s.2.1.size + s.2.2.1.size + s.2.2.2.size) ts.length (tried B d ts) := by
  unfold tried
  refine (hB d ts).bd fun b ts1 h1 => (must_sz _ _ _).bd fun _ ts2 h2 => (name_sz _ _).bd fun n ts3 h3 => (hB d ts3).bd fun l ts4 h4 => Sz.ok ?_
  simp only [o1, Exs.size] at *; omega
include hE hC hB in
theorem stm_sz (d : Nat) (ts : List Tok) : Sz fS ts.length (stm E C B d ts) := by
  unfold stm
  split
  · trivial
  rename_i t r
  have up : ∀ {m : Ou St}, Sz (fun s => s.2.1.size + s.2.2.1.size + s.2.2.2.size) r.length m → Sz fS (t :: r).length m := fun h => h.mono fun a k hk => by simp only [fS, List.length_cons]; omega
  have up2 : ∀ {m : Ou St}, Sz fS r.length m → Sz fS (t :: r).length m := fun h => h.mono fun a k hk => by simp only [List.length_cons]; omega
  refine Sz.ite (fun _ => named_sz hE hC d _) (fun _ => ?_)
  refine Sz.ite (fun _ => up2 ((name_sz false _).bd fun n ts1 h1 => (asg_sz hE d 1 n ts1).mono fun a k hk => by omega)) (fun _ => ?_)
  refine Sz.ite (fun _ => up (branch_sz hE hB d _)) (fun _ => ?_)
  refine Sz.ite (fun _ => up (while_sz hE hB d _)) (fun _ => ?_)
  refine Sz.ite (fun _ => up2 (returned_sz hE d _)) (fun _ => ?_)
  refine Sz.ite (fun _ => up2 ((lone_sz hE d _).bd fun e ts h => (ended_sz 6 [] e ts).mono fun a k hk => by omega)) (fun _ => ?_)
  refine Sz.ite (fun _ => up2 ((lone_sz hE d _).bd fun e ts h => (ended_sz 7 [] e ts).mono fun a k hk => by omega)) (fun _ => ?_)
  exact Sz.ite (fun _ => up (tried_sz hB d _)) (fun _ => trivial)
end
theorem sts_sz {S : List Tok → Ou St} (hS : ∀ ts, Sz fS ts.length (S ts)) : ∀ (g : Nat) (acc : Sts) (ts : List Tok), Sz Sts.size (acc.size + ts.length) (sts S g acc ts) := by
  intro g
  induction g with
  | zero => intro acc ts; trivial
  | succ g ih =>
    intro acc ts
    cases ts with
    | nil => trivial
    | cons t r =>
      unfold sts
      refine Sz.ite (fun _ => Sz.ok (Nat.le_refl _)) (fun _ => (hS _).bd fun s ts h => (ih _ ts).mono fun a k hk => ?_)
      rw [Sts.app_sz] at hk
      simp only [Sts.size, fS] at *
      omega
theorem blk_sz {E : Nat → List Tok → Ou Ex} {C : Nat → Ex → List Tok → Ou Ex} (hE : ∀ d ts, Sz fE ts.length (E d ts)) (hC : ∀ d e ts, Sz fE ts.length (C d e ts)) (g : Nat) : ∀ f d ts, Sz Sts.size ts.length (blk E C g f d ts) := by
  intro f
  induction f with
  | zero => intro d ts; trivial
  | succ f ih =>
    intro d ts
    unfold blk
    refine (opn_sz _ _ _ _).bd fun _ ts1 h1 => (sts_sz (fun ts => stm_sz hE hC ih (d + 1) ts) g .nil ts1).bd fun l ts2 h2 => (must_sz _ _ _).bd fun _ ts3 h3 => Sz.ok ?_
    simp only [o1, Sts.size] at *; omega
theorem typ_sz (ts : List Tok) : Sz o1 ts.length (typ ts) := by
  unfold typ
  split
  · trivial
  exact Sz.ite (fun _ => Sz.ok (by simp [o1]; omega)) (fun _ => Sz.ite (fun _ => Sz.ok (by simp [o1]; omega)) (fun _ => Sz.ite (fun _ => Sz.ok (by simp [o1]; omega)) (fun _ => trivial)))
theorem par1_sz (fl : Bool) (ts : List Tok) : Sz o1 ts.length (par1 fl ts) := by
  unfold par1
  refine (name_sz fl ts).bd fun n ts1 h1 => (must_sz _ _ _).bd fun _ ts2 h2 => (typ_sz _).bd fun t ts3 h3 => Sz.ok ?_
  simp only [o1] at *; omega
theorem rwP_sz : ∀ (g : Nat) (acc : List Pa) (ts : List Tok), Sz List.length (acc.length + ts.length) (rwP g acc ts) := by
  intro g
  induction g with
  | zero => intro acc ts; trivial
  | succ g ih =>
    intro acc ts
    cases ts with
    | nil => trivial
    | cons t r =>
      unfold rwP
      refine Sz.ite (fun _ => (par1_sz _ r).bd fun p ts h => (ih _ ts).mono fun a k hk => ?_) (fun _ => Sz.ok (Nat.le_refl _))
      simp only [o1, List.length_append, List.length_cons, List.length_nil] at *; omega
section
variable {E : Nat → List Tok → Ou Ex} {B : Nat → List Tok → Ou Sts} (hE : ∀ d ts, Sz fE ts.length (E d ts)) (hB : ∀ d ts, Sz Sts.size ts.length (B d ts)) (g : Nat)
include hE in
theorem holder_sz (kind : Int) (ex : Bool) (ts : List Tok) : Sz ndD ts.length (holder E kind ex ts) := by
  unfold holder
  refine (name_sz false ts).bd fun n ts1 h1 => (must_sz _ _ _).bd fun _ ts2 h2 => (typ_sz _).bd fun t ts3 h3 => (must_sz _ _ _).bd fun _ ts4 h4 => (lone_sz hE 0 _).bd fun e ts5 h5 => (must_sz _ _ _).bd fun _ ts6 h6 => Sz.ok ?_
  simp only [o1, ndD, Sts.size, List.length_nil] at *; omega
theorem params_sz (ts : List Tok) : Sz List.length ts.length (params g ts) := by
  unfold params
  split
  · trivial
  refine Sz.ite (fun _ => Sz.ok (by simp)) (fun _ => (par1_sz false _).bd fun p ts h => (rwP_sz g [p] ts).mono fun a k hk => ?_)
  simp only [o1, List.length_cons, List.length_nil] at *; omega
theorem result_sz (ts : List Tok) : Sz o0 ts.length (result ts) := by
  unfold result
  exact (has_sz _ _ _).bd fun y ts1 h1 => Sz.ite (fun _ => (typ_sz _).mono fun a k hk => by simp only [o1, o0] at *; omega) (fun _ => Sz.ok (by simp only [o0] at *; omega))
include hB in
theorem fnc_sz (ex : Bool) (ts : List Tok) : Sz ndD ts.length (fnc B g ex ts) := by
  unfold fnc
  refine (name_sz false ts).bd fun n ts1 h1 => (must_sz _ _ _).bd fun _ ts2 h2 => (params_sz g _).bd fun ps ts3 h3 => (must_sz _ _ _).bd fun _ ts4 h4 => (result_sz _).bd fun t ts5 h5 => (hB 0 _).bd fun b ts6 h6 => Sz.ok ?_
  simp only [o1, o0, ndD, Exs.size] at *; omega
include hE hB in
theorem dcl2_sz (ex fl : Bool) (ts : List Tok) : Sz ndD ts.length (dcl2 E B g ex fl ts) := by
  unfold dcl2
  split
  · trivial
  rename_i t r
  have up : ∀ {m : Ou De}, Sz ndD r.length m → Sz ndD (t :: r).length (if fl then some (.er t.p 3) else m) := fun h => Sz.ite (fun _ => trivial) (fun _ => h.mono fun a k hk => by simp only [List.length_cons]; omega)
  exact Sz.ite (fun _ => up (holder_sz hE 1 ex _)) (fun _ => Sz.ite (fun hc => up (holder_sz hE 2 ex _)) (fun _ => Sz.ite (fun _ => up (fnc_sz hB g ex _)) (fun _ => trivial)))
include hE hB in
theorem dcl_sz (fl : Bool) (ts : List Tok) : Sz ndD ts.length (dcl E B g fl ts) := by
  unfold dcl
  split
  · trivial
  exact Sz.ite (fun _ => Sz.ite (fun _ => trivial) (fun hf => (dcl2_sz hE hB g true false _).mono fun d k hd => by simp only [List.length_cons]; omega)) (fun _ => dcl2_sz hE hB g false fl _)
def fDs (l : List De) : Nat := (l.map ndD).sum
include hE hB in
theorem dcls_sz : ∀ (f : Nat) (acc : List De) (ts : List Tok), Sz fDs (fDs acc + ts.length) (dcls E B g f acc ts) := by
  intro f
  induction f with
  | zero => intro acc ts; trivial
  | succ f ih =>
    intro acc ts
    match ts with
    | [] => trivial
    | [t] => exact Sz.ok (Nat.le_refl _)
    | t :: u :: r =>
      unfold dcls
      refine (dcl_sz hE hB g _ _).bd fun d ts h => (ih _ ts).mono fun a k hk => ?_
      simp only [fDs, List.map_append, List.sum_append, List.map_cons, List.map_nil, List.sum_cons, List.sum_nil] at *
      omega
end
theorem imp1_sz (fl : Bool) (ts : List Tok) : Sz o1 ts.length (imp1 fl ts) := by
  unfold imp1
  refine (must_sz _ _ _).bd fun _ ts1 h1 => (name_sz false _).bd fun n ts2 h2 => (must_sz _ _ _).bd fun _ ts3 h3 => Sz.ok ?_
  simp only [o1] at *; omega
theorem imps_sz : ∀ (f : Nat) (acc : List Bs) (ts : List Tok), Sz List.length (acc.length + ts.length) (imps f acc ts) := by
  intro f
  induction f with
  | zero => intro acc ts; trivial
  | succ f ih =>
    intro acc ts
    cases ts with
    | nil => trivial
    | cons t r =>
      unfold imps
      refine Sz.ite (fun _ => (imp1_sz _ _).bd fun p ts h => (ih _ ts).mono fun a k hk => ?_) (fun _ => Sz.ok (Nat.le_refl _))
      simp only [o1, List.length_append, List.length_cons, List.length_nil] at *; omega
end Pz
end Go.Proofs.YteijjaabngkbjaaGreatDoor
namespace Go.Proofs.YteijjaabngkbjaaGreatDoor
open Go.RowKit Lx Te
set_option linter.unusedSimpArgs false
set_option linter.unusedVariables false
abbrev pp (q : Nat) : Value := .pointer (some ⟨q, 0, none⟩)
abbrev psO (v : Value) (d : Nat) (fl : Bool) : Obj := .cells #[v, ci (d : Int), .bool fl] 146 (0, 0)
def Tq (q : Nat) (w : World) : Prop := ∀ w', Fr (fun k => q ≤ k) w w' → F.Tab w'
theorem Tq.step {q : Nat} {S : Nat → Prop} {w w' : World} (h : Tq q w) (hf : Fr S w w') (hS : ∀ k, S k → q ≤ k) : Tq q w' :=
  fun w'' hf' => h w'' ((hf.mono (fun k _ hk => hS k hk)).same hf')
theorem Tq.of {q : Nat} {w w' : World} (h : F.Tab w) (hf : Fr (fun _ => False) w w') (hq : w.heap.size ≤ q) : Tq q w' :=
  fun w'' hf' => tab_fr h (hf.trans hf' (fun k hk hs => by omega))
def Ps (w : World) (q : Nat) (ts : List Tok) (d : Nat) (fl : Bool) : Prop :=
  Tq q w ∧ ∃ g off cap, w.heap[q]? = some (psO (.slice (some ⟨g, off, none⟩) ts.length cap) d fl) ∧ g < q ∧ ts.length ≤ cap ∧ cap ≤ maxLen ∧
    ∀ (i : Nat) (t : Tok), ts[i]? = some t → ∀ (j : Nat) (x : Value), (tokC t)[j]? = some x → w.cell? ⟨g, off + i * 5 + j, none⟩ = some x
theorem Ps.keepN {w w' : World} {q : Nat} {ts : List Tok} {d : Nat} {fl : Bool} (h : Ps w q ts d fl) (hf : Fr (fun _ => False) w w') : Ps w' q ts d fl := by
  obtain ⟨hTq, g, off, cap, h1, h2, h3, h4, h5⟩ := h
  exact ⟨hTq.step hf (fun _ f => f.elim), g, off, cap, hf.heap h1 (fun f => f), h2, h3, h4, fun i t ht j x hx => hf.cellN (h5 i t ht j x hx)⟩
theorem Ps.lt {w : World} {q : Nat} {ts : List Tok} {d : Nat} {fl : Bool} (h : Ps w q ts d fl) : q < w.heap.size := by
  obtain ⟨hTq, g, off, cap, h1, _⟩ := h
  exact lt_of_heap h1
theorem Ps.set {w w' : World} {q : Nat} {ts : List Tok} {d d' : Nat} {fl fl' : Bool} (h : Ps w q ts d fl) (hf : Fr (fun k => k = q) w w') (hw : ∀ v, w.heap[q]? = some (psO v d fl) → w'.heap[q]? = some (psO v d' fl')) : Ps w' q ts d' fl' := by
  obtain ⟨hTq, g, off, cap, h1, h2, h3, h4, h5⟩ := h
  exact ⟨hTq.step hf (fun k hk => by subst hk; exact Nat.le_refl _), g, off, cap, hw _ h1, h2, h3, h4, fun i t ht j x hx => hf.cell (h5 i t ht j x hx) (by show g ≠ q; omega)⟩
theorem Ps.high {S : Nat → Prop} {w w' : World} {q : Nat} {ts : List Tok} {d : Nat} {fl : Bool} (h : Ps w q ts d fl) (hf : Fr S w w') (hS : ∀ k, S k → q < k) : Ps w' q ts d fl := by
  obtain ⟨hTq, g, off, cap, h1, h2, h3, h4, h5⟩ := h
  exact ⟨hTq.step hf (fun k hk => Nat.le_of_lt (hS k hk)), g, off, cap, hf.heap h1 (fun f => by have := hS q f; omega), h2, h3, h4, fun i t ht j x hx => hf.cell (h5 i t ht j x hx) (fun f => by have := hS g f; omega)⟩
theorem Fr.put (w : World) (g off : Nat) (v : Value) : Fr (fun k => k = g) w (w.setCell ⟨g, off, none⟩ v) := Fr.setCell w ⟨g, off, none⟩ v
theorem set2_fr (w : World) (g : Nat) (v0 v1 : Value) : Fr (fun k => k = g) w ((w.setCell ⟨g, 0, none⟩ v0).setCell ⟨g, 1, none⟩ v1) := (Fr.put w g 0 v0).same (Fr.put _ g 1 v1)
theorem set3_fr (w : World) (g : Nat) (v0 v1 v2 : Value) : Fr (fun k => k = g) w (((w.setCell ⟨g, 0, none⟩ v0).setCell ⟨g, 1, none⟩ v1).setCell ⟨g, 2, none⟩ v2) := (set2_fr w g v0 v1).same (Fr.put _ g 2 v2)
theorem set4_fr (w : World) (g : Nat) (v0 v1 v2 v3 : Value) : Fr (fun k => k = g) w ((((w.setCell ⟨g, 0, none⟩ v0).setCell ⟨g, 1, none⟩ v1).setCell ⟨g, 2, none⟩ v2).setCell ⟨g, 3, none⟩ v3) := (set3_fr w g v0 v1 v2).same (Fr.put _ g 3 v3)
theorem set5_fr (w : World) (g : Nat) (v0 v1 v2 v3 v4 : Value) : Fr (fun k => k = g) w (((((w.setCell ⟨g, 0, none⟩ v0).setCell ⟨g, 1, none⟩ v1).setCell ⟨g, 2, none⟩ v2).setCell ⟨g, 3, none⟩ v3).setCell ⟨g, 4, none⟩ v4) := (set4_fr w g v0 v1 v2 v3).same (Fr.put _ g 4 v4)
theorem set6_fr (w : World) (g : Nat) (v0 v1 v2 v3 v4 v5 : Value) : Fr (fun k => k = g) w ((((((w.setCell ⟨g, 0, none⟩ v0).setCell ⟨g, 1, none⟩ v1).setCell ⟨g, 2, none⟩ v2).setCell ⟨g, 3, none⟩ v3).setCell ⟨g, 4, none⟩ v4).setCell ⟨g, 5, none⟩ v5) := (set5_fr w g v0 v1 v2 v3 v4).same (Fr.put _ g 5 v5)
theorem set7_fr (w : World) (g : Nat) (v0 v1 v2 v3 v4 v5 v6 : Value) : Fr (fun k => k = g) w (((((((w.setCell ⟨g, 0, none⟩ v0).setCell ⟨g, 1, none⟩ v1).setCell ⟨g, 2, none⟩ v2).setCell ⟨g, 3, none⟩ v3).setCell ⟨g, 4, none⟩ v4).setCell ⟨g, 5, none⟩ v5).setCell ⟨g, 6, none⟩ v6) := (set6_fr w g v0 v1 v2 v3 v4 v5).same (Fr.put _ g 6 v6)
theorem set_seven {w : World} {g : Nat} {a b c d e f h : Value} {t : TypeId} (hg : w.heap[g]? = some (.cells #[a, b, c, d, e, f, h] t (0, 0))) (v0 v1 v2 v3 v4 v5 v6 : Value) :
    (((((((w.setCell ⟨g, 0, none⟩ v0).setCell ⟨g, 1, none⟩ v1).setCell ⟨g, 2, none⟩ v2).setCell ⟨g, 3, none⟩ v3).setCell ⟨g, 4, none⟩ v4).setCell ⟨g, 5, none⟩ v5).setCell ⟨g, 6, none⟩ v6).heap[g]? = some (.cells #[v0, v1, v2, v3, v4, v5, v6] t (0, 0)) := by
  have h1 : (w.setCell ⟨g, 0, none⟩ v0).heap[g]? = some (.cells #[v0, b, c, d, e, f, h] t (0, 0)) := heap_setCell_same _ g 0 _ t v0 hg
  have h2 : ((w.setCell ⟨g, 0, none⟩ v0).setCell ⟨g, 1, none⟩ v1).heap[g]? = some (.cells #[v0, v1, c, d, e, f, h] t (0, 0)) := heap_setCell_same _ g 1 _ t v1 h1
  have h3 : (((w.setCell ⟨g, 0, none⟩ v0).setCell ⟨g, 1, none⟩ v1).setCell ⟨g, 2, none⟩ v2).heap[g]? = some (.cells #[v0, v1, v2, d, e, f, h] t (0, 0)) := heap_setCell_same _ g 2 _ t v2 h2
  have h4 : ((((w.setCell ⟨g, 0, none⟩ v0).setCell ⟨g, 1, none⟩ v1).setCell ⟨g, 2, none⟩ v2).setCell ⟨g, 3, none⟩ v3).heap[g]? = some (.cells #[v0, v1, v2, v3, e, f, h] t (0, 0)) := heap_setCell_same _ g 3 _ t v3 h3
  have h5 : (((((w.setCell ⟨g, 0, none⟩ v0).setCell ⟨g, 1, none⟩ v1).setCell ⟨g, 2, none⟩ v2).setCell ⟨g, 3, none⟩ v3).setCell ⟨g, 4, none⟩ v4).heap[g]? = some (.cells #[v0, v1, v2, v3, v4, f, h] t (0, 0)) := heap_setCell_same _ g 4 _ t v4 h4
  have h6 : ((((((w.setCell ⟨g, 0, none⟩ v0).setCell ⟨g, 1, none⟩ v1).setCell ⟨g, 2, none⟩ v2).setCell ⟨g, 3, none⟩ v3).setCell ⟨g, 4, none⟩ v4).setCell ⟨g, 5, none⟩ v5).heap[g]? = some (.cells #[v0, v1, v2, v3, v4, v5, h] t (0, 0)) := heap_setCell_same _ g 5 _ t v5 h5
  have h7 : (((((((w.setCell ⟨g, 0, none⟩ v0).setCell ⟨g, 1, none⟩ v1).setCell ⟨g, 2, none⟩ v2).setCell ⟨g, 3, none⟩ v3).setCell ⟨g, 4, none⟩ v4).setCell ⟨g, 5, none⟩ v5).setCell ⟨g, 6, none⟩ v6).heap[g]? = some (.cells #[v0, v1, v2, v3, v4, v5, v6] t (0, 0)) := heap_setCell_same _ g 6 _ t v6 h6
  exact h7
theorem post_one {fn : Func} {R : Ending → World → Prop} {a : Act} {w : World} {v : Value} (hr : (results fn a.tmps).run Tryz.prog w = .ok v w) (hd : a.defers = []) (hR : R (.returned v) w) : bodyPost Tryz.prog fn R .ret a w := ⟨hd, _, hr, hR⟩
theorem info_fault : (Tryz.prog.info? 110).map (·.size) = some 2 := by kernel_rfl
theorem fr_set1 {S : Nat → Prop} {w w' : World} {b : Nat} (h : Fr S w w') (hb : w.heap.size ≤ b) (off : Nat) (v : Value) : Fr S w (w'.setCell ⟨b, off, none⟩ v) :=
  h.over (Fr.setCell w' ⟨b, off, none⟩ v) (fun k hk => by have : k = b := hk; omega)
theorem Ps.head {w : World} {q : Nat} {t : Tok} {r : List Tok} {d : Nat} {fl : Bool} (h : Ps w q (t :: r) d fl) : ∃ g off cap, w.heap[q]? = some (psO (.slice (some ⟨g, off, none⟩) (r.length + 1) cap) d fl) ∧ g < q ∧ r.length + 1 ≤ cap ∧ cap ≤ 9223372036854775807 ∧
    w.cell? ⟨g, off, none⟩ = some (.int .i64 (t.k : Int)) ∧ w.cell? ⟨g, off + 1, none⟩ = some (.string ⟨t.x.toArray⟩) ∧ w.cell? ⟨g, off + 2, none⟩ = some (.int .i64 t.ty) ∧ w.cell? ⟨g, off + 3, none⟩ = some (.int .u64 t.b) ∧ w.cell? ⟨g, off + 4, none⟩ = some (.int .i64 (t.p : Int)) ∧
    (∀ (i : Nat) (u : Tok), r[i]? = some u → ∀ (j : Nat) (x : Value), (tokC u)[j]? = some x → w.cell? ⟨g, off + 5 + i * 5 + j, none⟩ = some x) := by
  obtain ⟨hTq, g, off, cap, h1, h2, h3, h4, h5⟩ := h
  have h0 := h5 0 t rfl
  refine ⟨g, off, cap, h1, h2, h3, by unfold maxLen at h4; omega, by simpa using h0 0 _ rfl, by simpa using h0 1 _ rfl, by simpa using h0 2 _ rfl, by simpa using h0 3 _ rfl, by simpa using h0 4 _ rfl, fun i u hu j x hx => ?_⟩
  have := h5 (i + 1) u (by simpa using hu) j x hx
  rw [show off + 5 + i * 5 + j = off + (i + 1) * 5 + j by omega]
  exact this
abbrev tok0 : Obj := .cells #[.int .i64 0, .string ⟨#[]⟩, .int .i64 0, .int .u64 0, .int .i64 0] 42 (0, 0)
set_option maxRecDepth 20000 in
theorem next_any (q : Nat) (t : Tok) (r : List Tok) (d : Nat) (fl : Bool) (w : World) (h : Ps w q (t :: r) d fl) :
    Calls Tryz.prog 111 #[pp q] w fun e w' => e = .returned (.agg #[.int .i64 (t.k : Int), .string ⟨t.x.toArray⟩, .int .i64 t.ty, .int .u64 t.b, .int .i64 (t.p : Int)]) ∧ Fr (fun _ => False) w w' := by
  obtain ⟨g, off, cap, h1, h2, h3, h4, c0, c1, c2, c3, c4, _⟩ := h.head
  have f0 := Fr.alloc (fun _ => False) w tok0
  have z0 : (w.alloc tok0).cell? ⟨q, 0, none⟩ = some (.slice (some ⟨g, off, none⟩) (r.length + 1) cap) := cell_of_row _ _ 0 _ _ _ (f0.heap h1 (fun f => f))
  have e0 := f0.cellN c0
  have e1 := f0.cellN c1
  have e2 := f0.cellN c2
  have e3 := f0.cellN c3
  have e4 := f0.cellN c4
  clear c0 c1 c2 c3 c4 h1
  have hz : (0 : Int) < ((r.length + 1 : Nat) : Int) := by omega
  go_enter Tryz.func111, Tryz.ntmps111
  go_wp2_with fail
  exact post_one (results_cell_row rfl _ _ _ _ _ _ _ rfl (alloc_new _ _) Tryz.underlying42 rfl info_tok) rfl ⟨rfl, Fr.alloc _ _ _⟩
theorem fld0 (a b c d e : Value) (w : World) : (Instr.field 42 (.agg #[a, b, c, d, e]) 0).run Tryz.prog w = .ok a w := by kernel_rfl
theorem fld1 (a b c d e : Value) (w : World) : (Instr.field 42 (.agg #[a, b, c, d, e]) 1).run Tryz.prog w = .ok b w := by kernel_rfl
theorem fld2 (a b c d e : Value) (w : World) : (Instr.field 42 (.agg #[a, b, c, d, e]) 2).run Tryz.prog w = .ok (.agg #[c, d]) w := by kernel_rfl
theorem fld3 (a b c d e : Value) (w : World) : (Instr.field 42 (.agg #[a, b, c, d, e]) 3).run Tryz.prog w = .ok e w := by kernel_rfl
theorem box2 {w : World} {b : Nat} {x0 x1 : Value} {t : TypeId} (h : w.heap[b]? = some (.cells #[x0, x1] t (0, 0))) :
    w.cell? ⟨b, 0, none⟩ = some x0 ∧ w.cell? ⟨b, 1, none⟩ = some x1 ∧ w.frozen? ⟨b, 0, none⟩ = false ∧ w.frozen? ⟨b, 1, none⟩ = false :=
  ⟨cell_of_row _ _ 0 _ _ _ h, cell_of_row _ _ 1 _ _ _ h, frozen_row h 0, frozen_row h 1⟩
theorem box3 {w : World} {b : Nat} {x0 x1 x2 : Value} {t : TypeId} (h : w.heap[b]? = some (.cells #[x0, x1, x2] t (0, 0))) :
    w.cell? ⟨b, 0, none⟩ = some x0 ∧ w.cell? ⟨b, 1, none⟩ = some x1 ∧ w.cell? ⟨b, 2, none⟩ = some x2 ∧ w.frozen? ⟨b, 0, none⟩ = false ∧ w.frozen? ⟨b, 1, none⟩ = false ∧ w.frozen? ⟨b, 2, none⟩ = false :=
  ⟨cell_of_row _ _ 0 _ _ _ h, cell_of_row _ _ 1 _ _ _ h, cell_of_row _ _ 2 _ _ _ h, frozen_row h 0, frozen_row h 1, frozen_row h 2⟩
theorem box5 {w : World} {b : Nat} {x0 x1 x2 x3 x4 : Value} {t : TypeId} (h : w.heap[b]? = some (.cells #[x0, x1, x2, x3, x4] t (0, 0))) :
    w.cell? ⟨b, 0, none⟩ = some x0 ∧ w.cell? ⟨b, 1, none⟩ = some x1 ∧ w.cell? ⟨b, 2, none⟩ = some x2 ∧ w.cell? ⟨b, 3, none⟩ = some x3 ∧ w.cell? ⟨b, 4, none⟩ = some x4 ∧
    w.frozen? ⟨b, 0, none⟩ = false ∧ w.frozen? ⟨b, 1, none⟩ = false ∧ w.frozen? ⟨b, 2, none⟩ = false ∧ w.frozen? ⟨b, 3, none⟩ = false ∧ w.frozen? ⟨b, 4, none⟩ = false :=
  ⟨cell_of_row _ _ 0 _ _ _ h, cell_of_row _ _ 1 _ _ _ h, cell_of_row _ _ 2 _ _ _ h, cell_of_row _ _ 3 _ _ _ h, cell_of_row _ _ 4 _ _ _ h, frozen_row h 0, frozen_row h 1, frozen_row h 2, frozen_row h 3, frozen_row h 4⟩
theorem box7 {w : World} {b : Nat} {x0 x1 x2 x3 x4 x5 x6 : Value} {t : TypeId} (h : w.heap[b]? = some (.cells #[x0, x1, x2, x3, x4, x5, x6] t (0, 0))) :
    w.cell? ⟨b, 0, none⟩ = some x0 ∧ w.cell? ⟨b, 1, none⟩ = some x1 ∧ w.cell? ⟨b, 2, none⟩ = some x2 ∧ w.cell? ⟨b, 3, none⟩ = some x3 ∧ w.cell? ⟨b, 4, none⟩ = some x4 ∧ w.cell? ⟨b, 5, none⟩ = some x5 ∧ w.cell? ⟨b, 6, none⟩ = some x6 ∧
    w.frozen? ⟨b, 0, none⟩ = false ∧ w.frozen? ⟨b, 1, none⟩ = false ∧ w.frozen? ⟨b, 2, none⟩ = false ∧ w.frozen? ⟨b, 3, none⟩ = false ∧ w.frozen? ⟨b, 4, none⟩ = false ∧ w.frozen? ⟨b, 5, none⟩ = false ∧ w.frozen? ⟨b, 6, none⟩ = false :=
  ⟨cell_of_row _ _ 0 _ _ _ h, cell_of_row _ _ 1 _ _ _ h, cell_of_row _ _ 2 _ _ _ h, cell_of_row _ _ 3 _ _ _ h, cell_of_row _ _ 4 _ _ _ h, cell_of_row _ _ 5 _ _ _ h, cell_of_row _ _ 6 _ _ _ h, frozen_row h 0, frozen_row h 1, frozen_row h 2, frozen_row h 3, frozen_row h 4, frozen_row h 5, frozen_row h 6⟩
set_option maxRecDepth 20000 in
theorem is_any (q : Nat) (s : Bs) (t : Tok) (r : List Tok) (d : Nat) (fl : Bool) (b : Bool) (hb : Hidden ((t.x == s) = b)) (w : World) (h : Ps w q (t :: r) d fl) :
    Calls Tryz.prog 65 #[pp q, ct s] w fun e w' => e = .returned (.bool b) ∧ Fr (fun _ => False) w w' := by
  have kn := next_any q t r d fl w h
  have hf1 := fld1
  go_enter Tryz.func65, Tryz.ntmps65
  go_wp2_with (go_at_call 111; refine kn.mono ?_; rintro e W1 ⟨rfl, f1⟩)
  go_ret
  refine ⟨?_, f1⟩
  rw [← (show _ = b from hb)]
  rfl
set_option maxRecDepth 20000 in
theorem fault_any (q : Nat) (c : Int) (t : Tok) (r : List Tok) (d : Nat) (fl : Bool) (w : World) (h : Ps w q (t :: r) d fl) :
    Calls Tryz.prog 109 #[pp q, ci c] w fun e w' => e = .returned (.agg #[ci (t.p : Int), ci c]) ∧ Fr (fun _ => False) w w' := by
  have f0 := Fr.alloc (fun _ => False) w (.cells #[ci 0, ci 0] 110)
  have kn := next_any q t r d fl _ (h.keepN f0)
  have hf3 := fld3
  have hn : Hidden ((w.alloc (.cells #[ci 0, ci 0] 110)).heap[w.heap.size]? = some (.cells #[ci 0, ci 0] 110 (0, 0))) := alloc_new _ _
  go_enter Tryz.func109, Tryz.ntmps109
  go_wp2_with fail
  go_at_call 111
  refine kn.mono ?_
  rintro e W1 ⟨rfl, f1⟩
  have hb := f1.heap hn (fun f => f)
  have c0 : W1.cell? ⟨w.heap.size, 0, none⟩ = some (ci 0) := cell_of_row _ _ 0 _ _ _ hb
  have c1 : W1.cell? ⟨w.heap.size, 1, none⟩ = some (ci 0) := cell_of_row _ _ 1 _ _ _ hb
  have z0 := frozen_row hb 0
  have z1 := frozen_row hb 1
  go_wp2_with fail
  refine post_one (results_cell_row rfl _ _ _ _ _ _ _ rfl (set_two hb _ _) Tryz.underlying110 rfl info_fault) rfl ⟨rfl, ?_⟩
  exact fr_set1 (fr_set1 (f0.same f1) (Nat.le_refl _) _ _) (Nat.le_refl _) _ _
def gP (p : Nat) (c : Int) : Ending := .panicked [{ v := .iface 110 (.agg #[.int .i64 (p : Int), .int .i64 c]), recovered := false }]
theorem slice_tail (g off n cap : Nat) (h : n + 1 ≤ cap) (hc : cap ≤ 9223372036854775807) : ∃ off', (n = 0 ∨ off' = off + 5) ∧ ∀ w, (Instr.slice 35 (.slice (some ⟨g, off, none⟩) (n + 1) cap) (some (.int .i64 1)) none none).run Tryz.prog w = .ok (.slice (some ⟨g, off', none⟩) n (cap - 1)) w := by
  have hi : Tryz.prog.info? 42 = none ∨ ∃ i, Tryz.prog.info? 42 = some i ∧ i.size = 5 := by
    have := info_tok
    cases hx : Tryz.prog.info? 42 with
    | none => exact Or.inl rfl
    | some i => rw [hx] at this; exact Or.inr ⟨i, rfl, by simpa using this⟩
  rcases hi with hi | ⟨i, hi, h5⟩
  · have := info_tok
    rw [hi] at this
    cases this
  · by_cases h1 : cap = 1
    · refine ⟨off, Or.inl (by omega), fun w => ?_⟩
      subst h1
      obtain rfl : n = 0 := by omega
      simp [Instr.slice, Instr.sliceBounds, Instr.sliceBound, go_sem, Tryz.underlying35, sizeOf, typeInfo, hi, h5, Sem.run_bind]
    · refine ⟨off + 5, Or.inr rfl, fun w => ?_⟩
      simp [Instr.slice, Instr.sliceBounds, Instr.sliceBound, go_sem, Tryz.underlying35, sizeOf, typeInfo, hi, h5, Sem.run_bind, Addr.add, h1]
      intro h9
      omega
theorem frozen_ps {w : World} {q : Nat} {v : Value} {d : Nat} {fl : Bool} (h : w.heap[q]? = some (psO v d fl)) (j : Nat) : w.frozen? ⟨q, j, none⟩ = false := frozen_row h j
set_option maxRecDepth 20000 in
theorem take_no (q : Nat) (t : Tok) (r : List Tok) (d : Nat) (w : World) (h : Ps w q (t :: r) d true) :
    Calls Tryz.prog 112 #[pp q] w fun e w' => e = gP t.p 3 ∧ Fr (fun _ => False) w w' := by
  have f0 := Fr.alloc (fun _ => False) w tok0
  have kf := fault_any q 3 t r d true _ (h.keepN f0)
  obtain ⟨hTq, g, off, cap, h1, _⟩ := h
  have z2 : (w.alloc tok0).cell? ⟨q, 2, none⟩ = some (.bool true) := cell_of_row _ _ 2 _ _ _ (f0.heap h1 (fun f => f))
  clear h1
  go_enter Tryz.func112, Tryz.ntmps112
  go_wp2_with (go_at_call 109; refine kf.mono ?_; rintro e W1 ⟨rfl, f1⟩)
  exact ⟨rfl, rfl, f0.same f1⟩
set_option maxRecDepth 20000 in
theorem take_ok (q : Nat) (t : Tok) (r : List Tok) (d : Nat) (w : World) (h : Ps w q (t :: r) d false) :
    Calls Tryz.prog 112 #[pp q] w fun e w' => e = .returned (.agg #[.int .i64 (t.k : Int), .string ⟨t.x.toArray⟩, .int .i64 t.ty, .int .u64 t.b, .int .i64 (t.p : Int)]) ∧ Ps w' q r d false ∧ Fr (fun k => k = q) w w' := by
  have f0 := Fr.alloc (fun _ => False) w tok0
  have kn := next_any q t r d false _ (h.keepN f0)
  have hn : Hidden ((w.alloc tok0).heap[w.heap.size]? = some tok0) := alloc_new _ _
  have hlt := h.lt
  obtain ⟨g, off, cap, h1, h2, h3, h4, c0, c1, c2, c3, c4, hrest⟩ := h.head
  have z2 : (w.alloc tok0).cell? ⟨q, 2, none⟩ = some (.bool false) := cell_of_row _ _ 2 _ _ _ (f0.heap h1 (fun f => f))
  have hTq := h.1
  obtain ⟨off', hoff, hsl⟩ := slice_tail g off r.length cap h3 h4
  have h1H : Hidden (w.heap[q]? = some (psO (.slice (some ⟨g, off, none⟩) (r.length + 1) cap) d false)) := h1
  have hoffH : Hidden (r.length = 0 ∨ off' = off + 5) := hoff
  clear c0 c1 c2 c3 c4 h1 hoff h
  go_enter Tryz.func112, Tryz.ntmps112
  go_wp2_with fail
  go_at_call 111
  refine kn.mono ?_
  rintro e W1 ⟨rfl, f1⟩
  have hq1 := (f0.same f1).heap h1H (fun f => f)
  have hn1 := f1.heap hn (fun f => f)
  have hs1 := f1.size
  have fa := Fr.alloc (fun _ => False) W1 (.cells #[.int .i64 (t.k : Int), .string ⟨t.x.toArray⟩, .int .i64 t.ty, .int .u64 t.b, .int .i64 (t.p : Int)] 42)
  have y0 : (W1.alloc (.cells #[.int .i64 (t.k : Int), .string ⟨t.x.toArray⟩, .int .i64 t.ty, .int .u64 t.b, .int .i64 (t.p : Int)] 42)).cell? ⟨q, 0, none⟩ = some (.slice (some ⟨g, off, none⟩) (r.length + 1) cap) := cell_of_row _ _ 0 _ _ _ (fa.heap hq1 (fun f => f))
  have z0 := frozen_ps (fa.heap hq1 (fun f => f)) 0
  go_upto_region 5 with fail
  have g1 : Fr (fun k => k = q) W1 ((W1.alloc (.cells #[.int .i64 (t.k : Int), .string ⟨t.x.toArray⟩, .int .i64 t.ty, .int .u64 t.b, .int .i64 (t.p : Int)] 42)).setCell ⟨q, 0, none⟩ (.slice (some ⟨g, off', none⟩) r.length (cap - 1))) := (fa.mono (fun _ _ f => f.elim)).same (Fr.setCell _ ⟨q, 0, none⟩ _)
  have g2 : ((W1.alloc (.cells #[.int .i64 (t.k : Int), .string ⟨t.x.toArray⟩, .int .i64 t.ty, .int .u64 t.b, .int .i64 (t.p : Int)] 42)).setCell ⟨q, 0, none⟩ (.slice (some ⟨g, off', none⟩) r.length (cap - 1))).heap[q]? = some (psO (.slice (some ⟨g, off', none⟩) r.length (cap - 1)) d false) := heap_setCell_same _ q 0 _ 146 _ (fa.heap hq1 (fun f => f))
  have g3 : ((W1.alloc (.cells #[.int .i64 (t.k : Int), .string ⟨t.x.toArray⟩, .int .i64 t.ty, .int .u64 t.b, .int .i64 (t.p : Int)] 42)).setCell ⟨q, 0, none⟩ (.slice (some ⟨g, off', none⟩) r.length (cap - 1))).heap[W1.heap.size]? = some (.cells #[.int .i64 (t.k : Int), .string ⟨t.x.toArray⟩, .int .i64 t.ty, .int .u64 t.b, .int .i64 (t.p : Int)] 42 (0, 0)) := by
    rw [heap_setCell_other _ _ _ _ (by show W1.heap.size ≠ q; simp at hs1; omega)]
    exact alloc_new _ _
  have hn2 := g1.heap hn1 (by omega)
  generalize (W1.alloc (.cells #[.int .i64 (t.k : Int), .string ⟨t.x.toArray⟩, .int .i64 t.ty, .int .u64 t.b, .int .i64 (t.p : Int)] 42)).setCell ⟨q, 0, none⟩ (.slice (some ⟨g, off', none⟩) r.length (cap - 1)) = W2 at g1 g2 g3 hn2 ⊢
  obtain ⟨b0, b1, b2, b3, b4, y0, y1, y2, y3, y4⟩ := box5 g3
  obtain ⟨a0, a1, a2, a3, a4, x0, x1, x2, x3, x4⟩ := box5 hn2
  have g2H : Hidden (W2.heap[q]? = some (psO (.slice (some ⟨g, off', none⟩) r.length (cap - 1)) d false)) := g2
  have hn2H : Hidden (W2.heap[w.heap.size]? = some tok0) := hn2
  clear g2 g3 hn2 hn1 hq1 y0 y1 y2 y3 y4
  go_wp2_with fail
  have fr5 := fr_five (((f0.same f1).mono (fun _ _ f => f.elim)).same g1) (Nat.le_refl _) (.int .i64 (t.k : Int)) (.string ⟨t.x.toArray⟩) (.int .i64 t.ty) (.int .u64 t.b) (.int .i64 (t.p : Int))
  refine post_one (results_cell_row rfl _ _ _ _ _ _ _ rfl (set_five hn2H _ _ _ _ _) Tryz.underlying42 rfl info_tok) rfl ⟨rfl, ?_, fr5⟩
  have hW2 : Ps W2 q r d false := by
    refine ⟨(hTq.step (f0.same f1) (fun _ f => f.elim)).step g1 (fun k hk => by subst hk; exact Nat.le_refl _), g, off', cap - 1, g2H, h2, by omega, by unfold maxLen; omega, fun i u hu j x hx => ?_⟩
    have ho : r.length = 0 ∨ off' = off + 5 := hoffH
    rcases ho with h0 | rfl
    · rw [List.eq_nil_of_length_eq_zero h0] at hu
      simp at hu
    · exact g1.cell ((f0.same f1).cellN (hrest i u hu j x hx)) (by show g ≠ q; omega)
  exact hW2.high (set5_fr W2 w.heap.size _ _ _ _ _) (fun k hk => by subst hk; exact hlt)
def Out {α : Type} (T : α → Value → World → World → Prop) (q d : Nat) (w : World) (r : Pz.Rs α) (e : Ending) (w' : World) : Prop :=
  match r with
  | .ok a ts => ∃ v, e = .returned v ∧ T a v w w' ∧ Ps w' q ts d false ∧ Fr (fun k => k = q) w w'
  | .er p c => e = gP p c ∧ Fr (fun k => k = q) w w'
theorem frq {q : Nat} {w w' : World} (h : Fr (fun _ => False) w w') : Fr (fun k => k = q) w w' := h.mono (fun _ _ f => f.elim)
theorem has_no (q : Nat) (s : Bs) (t : Tok) (r : List Tok) (d : Nat) (fl : Bool) (hx : t.x ≠ s) (w : World) (h : Ps w q (t :: r) d fl) :
    Calls Tryz.prog 110 #[pp q, ct s] w fun e w' => e = .returned (.bool false) ∧ Fr (fun _ => False) w w' := by
  have ki := is_any q s t r d fl false (by simpa [Hidden] using hx) w h
  go_enter Tryz.func110, Tryz.ntmps110
  go_wp2_with (go_at_call 65; refine ki.mono ?_; rintro e W1 ⟨rfl, f1⟩)
  go_ret
  exact ⟨rfl, f1⟩
theorem has_yes (q : Nat) (s : Bs) (t : Tok) (r : List Tok) (d : Nat) (hx : t.x = s) (w : World) (h : Ps w q (t :: r) d false) :
    Calls Tryz.prog 110 #[pp q, ct s] w fun e w' => e = .returned (.bool true) ∧ Ps w' q r d false ∧ Fr (fun k => k = q) w w' := by
  have ki := is_any q s t r d false true (by simpa [Hidden] using hx) w h
  have kt := fun w => take_ok q t r d w
  have hH : Hidden (Ps w q (t :: r) d false) := h
  clear hx h
  go_enter Tryz.func110, Tryz.ntmps110
  go_wp2_with fail
  go_at_call 65
  refine ki.mono ?_
  rintro e W1 ⟨rfl, f1⟩
  go_wp2_with fail
  go_at_call 112
  refine (kt _ (Ps.keepN hH f1)).mono ?_
  rintro e W2 ⟨rfl, h2, f2⟩
  go_wp2_with fail
  go_ret
  exact ⟨rfl, h2, (frq f1).same f2⟩
theorem has_full (q : Nat) (s : Bs) (t : Tok) (r : List Tok) (d : Nat) (hx : t.x = s) (w : World) (h : Ps w q (t :: r) d true) :
    Calls Tryz.prog 110 #[pp q, ct s] w fun e w' => e = gP t.p 3 ∧ Fr (fun k => k = q) w w' := by
  have ki := is_any q s t r d true true (by simpa [Hidden] using hx) w h
  have kt := fun w => take_no q t r d w
  have hH : Hidden (Ps w q (t :: r) d true) := h
  unfold gP at *
  clear hx h
  go_enter Tryz.func110, Tryz.ntmps110
  go_wp2_with fail
  go_at_call 65
  refine ki.mono ?_
  rintro e W1 ⟨rfl, f1⟩
  go_wp2_with fail
  go_at_call 112
  refine (kt _ (Ps.keepN hH f1)).mono ?_
  rintro e W2 ⟨rfl, f2⟩
  go_wp2_with fail
  exact ⟨rfl, rfl, frq (f1.same f2)⟩
theorem must_c (q : Nat) (s : Bs) (ts : List Tok) (d : Nat) (fl : Bool) (rs : Pz.Rs Unit) (hs : Pz.must s fl ts = some rs) (w : World) (h : Ps w q ts d fl) :
    Calls Tryz.prog 63 #[pp q, ct s] w (Out (fun _ v _ _ => v = .tuple #[]) q d w rs) := by
  cases ts with
  | nil => simp [Pz.must] at hs
  | cons t r =>
    simp only [Pz.must] at hs
    by_cases hx : t.x = s
    · rw [if_pos hx] at hs
      cases fl
      · have e : Pz.Rs.ok () r = rs := by simpa using hs
        subst e
        have k := has_yes q s t r d hx w h
        clear hs hx
        unfold Out
        go_enter Tryz.func63, Tryz.ntmps63
        go_wp2_with (go_at_call 110; refine k.mono ?_; rintro e W1 ⟨rfl, h1, f1⟩)
        go_end0
        exact ⟨_, rfl, rfl, h1, f1⟩
      · have e : Pz.Rs.er t.p 3 = rs := by simpa using hs
        subst e
        have k := has_full q s t r d hx w h
        clear hs hx
        unfold Out gP at *
        go_enter Tryz.func63, Tryz.ntmps63
        go_wp2_with (go_at_call 110; refine k.mono ?_; rintro e W1 ⟨rfl, f1⟩)
        exact ⟨rfl, rfl, f1⟩
    · rw [if_neg hx] at hs
      have e : Pz.Rs.er t.p 11 = rs := by simpa using hs
      subst e
      have k := has_no q s t r d fl hx w h
      have kf := fun w => fault_any q 11 t r d fl w
      have hH : Hidden (Ps w q (t :: r) d fl) := h
      clear hs hx h
      unfold Out gP at *
      go_enter Tryz.func63, Tryz.ntmps63
      go_wp2_with fail
      go_at_call 110
      refine k.mono ?_
      rintro e W1 ⟨rfl, f1⟩
      go_wp2_with fail
      go_at_call 109
      refine (kf _ (Ps.keepN hH f1)).mono ?_
      rintro e W2 ⟨rfl, f2⟩
      go_wp2_with fail
      exact ⟨rfl, rfl, frq (f1.same f2)⟩
theorem has_c (q : Nat) (s : Bs) (ts : List Tok) (d : Nat) (rs : Pz.Rs Bool) (hs : Pz.has s false ts = some rs) (w : World) (h : Ps w q ts d false) :
    Calls Tryz.prog 110 #[pp q, ct s] w (Out (fun b v _ _ => v = .bool b) q d w rs) := by
  cases ts with
  | nil => simp [Pz.has] at hs
  | cons t r =>
    simp only [Pz.has] at hs
    by_cases hx : t.x = s
    · rw [if_pos hx] at hs
      have e : Pz.Rs.ok true r = rs := by simpa using hs
      subst e
      exact (has_yes q s t r d hx w h).mono fun e w' ⟨h1, h2, h3⟩ => ⟨_, h1, rfl, h2, h3⟩
    · rw [if_neg hx] at hs
      have e : Pz.Rs.ok false (t :: r) = rs := by simpa using hs
      subst e
      exact (has_no q s t r d false hx w h).mono fun e w' ⟨h1, h2⟩ => ⟨_, h1, rfl, h.keepN h2, frq h2⟩
set_option maxRecDepth 20000 in
theorem name_c (q : Nat) (ts : List Tok) (d : Nat) (fl : Bool) (rs : Pz.Rs Bs) (hs : Pz.name fl ts = some rs) (w : World) (h : Ps w q ts d fl) :
    Calls Tryz.prog 64 #[pp q] w (Out (fun n v _ _ => v = ct n) q d w rs) := by
  have hf0 := fld0
  have hf1 := fld1
  cases ts with
  | nil => simp [Pz.name] at hs
  | cons t r =>
    simp only [Pz.name] at hs
    have kn := next_any q t r d fl w h
    have hH : Hidden (Ps w q (t :: r) d fl) := h
    by_cases hx : t.k = 1
    · rw [if_pos hx] at hs
      have hk : ((t.k : Int) == 1) = true := by simp [hx]
      have hk2 : ((t.k : Int) != 1) = false := by simp [hx]
      cases fl
      · have e : Pz.Rs.ok t.x r = rs := by simpa using hs
        subst e
        have kt := fun w => take_ok q t r d w
        clear hs hx h
        unfold Out
        go_enter Tryz.func64, Tryz.ntmps64
        go_wp2_with fail
        go_at_call 111
        refine kn.mono ?_
        rintro e W1 ⟨rfl, f1⟩
        go_wp2_with fail
        go_at_call 112
        refine (kt _ (Ps.keepN hH f1)).mono ?_
        rintro e W2 ⟨rfl, h2, f2⟩
        go_wp2_with fail
        go_ret
        exact ⟨_, rfl, rfl, h2, (frq f1).same f2⟩
      · have e : Pz.Rs.er t.p 3 = rs := by simpa using hs
        subst e
        have kt := fun w => take_no q t r d w
        clear hs hx h
        unfold Out gP at *
        go_enter Tryz.func64, Tryz.ntmps64
        go_wp2_with fail
        go_at_call 111
        refine kn.mono ?_
        rintro e W1 ⟨rfl, f1⟩
        go_wp2_with fail
        go_at_call 112
        refine (kt _ (Ps.keepN hH f1)).mono ?_
        rintro e W2 ⟨rfl, f2⟩
        go_wp2_with fail
        exact ⟨rfl, rfl, frq (f1.same f2)⟩
    · rw [if_neg hx] at hs
      have hk : ((t.k : Int) == 1) = false := by rw [beq_eq_false_iff_ne]; omega
      have hk2 : ((t.k : Int) != 1) = true := by rw [bne_iff_ne]; omega
      have e : Pz.Rs.er t.p 11 = rs := by simpa using hs
      subst e
      have kf := fun w => fault_any q 11 t r d fl w
      clear hs hx h
      unfold Out gP at *
      go_enter Tryz.func64, Tryz.ntmps64
      go_wp2_with fail
      go_at_call 111
      refine kn.mono ?_
      rintro e W1 ⟨rfl, f1⟩
      go_wp2_with fail
      go_at_call 109
      refine (kf _ (Ps.keepN hH f1)).mono ?_
      rintro e W2 ⟨rfl, f2⟩
      go_wp2_with fail
      exact ⟨rfl, rfl, frq (f1.same f2)⟩
end Go.Proofs.YteijjaabngkbjaaGreatDoor
namespace Go.Proofs.YteijjaabngkbjaaGreatDoor
open Go.RowKit Lx Te
set_option linter.unusedSimpArgs false
set_option linter.unusedVariables false
theorem Pz.bd_some {α β : Type} {m : Pz.Ou α} {k : α → List Tok → Pz.Ou β} {r : Pz.Rs β} (h : Hidden (Pz.bd m k = some r)) :
    ∃ r1, m = some r1 ∧ Hidden (match r1 with | .ok a ts => k a ts = some r | .er p c => r = .er p c) := by
  match m, h with
  | none, h => exact absurd h (by simp [Hidden])
  | some (.er p c), h => exact ⟨_, rfl, by have : some (Pz.Rs.er p c) = some r := h; exact (Option.some.inj this).symm⟩
  | some (.ok a ts), h => exact ⟨_, rfl, h⟩
def Nw (B : Nat) (w : World) (P : World → Prop) : Prop := ∀ w', Fr (fun k => k < B) w w' → P w'
theorem Nw.now {B : Nat} {w : World} {P : World → Prop} (h : Nw B w P) : P w := h w (Fr.refl _ _)
theorem Nw.step {B : Nat} {S : Nat → Prop} {w w' : World} {P : World → Prop} (h : Nw B w P) (hf : Fr S w w') (hS : ∀ k, S k → k < B) : Nw B w' P :=
  fun w'' hf' => h w'' ((hf.mono (fun k _ hk => hS k hk)).same hf')
theorem Nw.weak {B B' : Nat} {w : World} {P : World → Prop} (h : Nw B w P) (hB : B' ≤ B) : Nw B' w P :=
  fun w' hf => h w' (hf.mono (fun k _ hk => by omega))
def TE (x : Pz.Ex) (v : Value) (w w' : World) : Prop :=
  ∃ ao cap, v = .agg #[ci x.1.kind, ci x.1.op, ct x.1.mod, ct x.1.name, ci x.1.vt, .int .u64 x.1.vb, .slice ao x.2.len cap] ∧ Nw w.heap.size w' (fun w => ExL w ao cap x.2)
theorem info_ex : (Tryz.prog.info? 59).map (·.size) = some 7 := by kernel_rfl
theorem post_ex {fn : Func} {R : Ending → World → Prop} {a : Act} {w : World} {p : Tmp} {g : Nat} {x0 x1 x2 x3 x4 x5 x6 v0 v1 v2 v3 v4 v5 v6 : Value} (hg : w.heap[g]? = some (.cells #[x0, x1, x2, x3, x4, x5, x6] 59 (0, 0))) (h : fn.results = #[.cell p 59]) (hd : a.defers = [])
    (hp : a.tmps.getD p undef = .pointer (some ⟨g, 0, none⟩)) (hR : R (.returned (.agg #[v0, v1, v2, v3, v4, v5, v6])) (((((((w.setCell ⟨g, 0, none⟩ v0).setCell ⟨g, 1, none⟩ v1).setCell ⟨g, 2, none⟩ v2).setCell ⟨g, 3, none⟩ v3).setCell ⟨g, 4, none⟩ v4).setCell ⟨g, 5, none⟩ v5).setCell ⟨g, 6, none⟩ v6)) :
    bodyPost Tryz.prog fn R .ret a (((((((w.setCell ⟨g, 0, none⟩ v0).setCell ⟨g, 1, none⟩ v1).setCell ⟨g, 2, none⟩ v2).setCell ⟨g, 3, none⟩ v3).setCell ⟨g, 4, none⟩ v4).setCell ⟨g, 5, none⟩ v5).setCell ⟨g, 6, none⟩ v6) :=
  post_one (results_cell_row h _ _ _ _ _ _ _ hp (set_seven hg _ _ _ _ _ _ _) Tryz.underlying59 rfl info_ex) hd hR
abbrev ex0 : Obj := .cells #[ci 0, ci 0, .string ⟨#[]⟩, .string ⟨#[]⟩, ci 0, .int .u64 0, .slice none 0 0] 59 (0, 0)
theorem atEnd_any (q : Nat) (ts : List Tok) (d : Nat) (fl : Bool) (b : Bool) (hb : Hidden (((ts.length : Int) == 1) = b)) (w : World) (h : Ps w q ts d fl) :
    Calls Tryz.prog 68 #[pp q] w fun e w' => e = .returned (.bool b) ∧ w' = w := by
  obtain ⟨hTq, g, off, cap, h1, _⟩ := h
  have c0 : w.cell? ⟨q, 0, none⟩ = some (.slice (some ⟨g, off, none⟩) ts.length cap) := cell_of_row _ _ 0 _ _ _ h1
  clear h1
  go_enter Tryz.func68, Tryz.ntmps68
  go_wp2_with fail
  go_ret
  refine ⟨?_, rfl⟩
  rw [← (show _ = b from hb)]
  rfl
theorem mustEnd_ok (q : Nat) (t : Tok) (d : Nat) (fl : Bool) (w : World) (h : Ps w q [t] d fl) :
    Calls Tryz.prog 62 #[pp q] w fun e w' => e = .returned (.tuple #[]) ∧ w' = w := by
  have k := atEnd_any q [t] d fl true rfl w h
  go_enter Tryz.func62, Tryz.ntmps62
  go_wp2_with (go_at_call 68; refine k.mono ?_; rintro e W1 ⟨rfl, rfl⟩)
  go_end0
  exact ⟨rfl, rfl⟩
theorem mustEnd_no (q : Nat) (t u : Tok) (r : List Tok) (d : Nat) (fl : Bool) (w : World) (h : Ps w q (t :: u :: r) d fl) :
    Calls Tryz.prog 62 #[pp q] w fun e w' => e = gP t.p 11 ∧ Fr (fun _ => False) w w' := by
  have k := atEnd_any q (t :: u :: r) d fl false (by simp only [Hidden, beq_eq_false_iff_ne, List.length_cons]; omega) w h
  have kf := fault_any q 11 t (u :: r) d fl w h
  unfold gP
  go_enter Tryz.func62, Tryz.ntmps62
  go_wp2_with fail
  go_at_call 68
  refine k.mono ?_
  rintro e W1 ⟨rfl, rfl⟩
  go_wp2_with fail
  go_at_call 109
  refine kf.mono ?_
  rintro e W2 ⟨rfl, f2⟩
  go_wp2_with fail
  exact ⟨rfl, rfl, f2⟩
theorem Ps.deep {w : World} {q : Nat} {ts : List Tok} {d : Nat} {fl : Bool} (h : Ps w q ts d fl) : w.cell? ⟨q, 1, none⟩ = some (ci (d : Int)) ∧ w.frozen? ⟨q, 1, none⟩ = false := by
  obtain ⟨hTq, g, off, cap, h1, _⟩ := h
  exact ⟨cell_of_row _ _ 1 _ _ _ h1, frozen_row h1 1⟩
theorem Ps.setDeep {w : World} {q : Nat} {ts : List Tok} {d : Nat} {fl : Bool} (h : Ps w q ts d fl) (d' : Nat) : Ps (w.setCell ⟨q, 1, none⟩ (ci (d' : Int))) q ts d' fl :=
  h.set (Fr.put w q 1 _) (fun v hv => heap_setCell_same _ q 1 _ 146 _ hv)
theorem Ps.setFull {w : World} {q : Nat} {ts : List Tok} {d : Nat} {fl : Bool} (h : Ps w q ts d fl) (fl' : Bool) : Ps (w.setCell ⟨q, 2, none⟩ (.bool fl')) q ts d fl' :=
  h.set (Fr.put w q 2 _) (fun v hv => heap_setCell_same _ q 2 _ 146 _ hv)
theorem Ps.fullC {w : World} {q : Nat} {ts : List Tok} {d : Nat} {fl : Bool} (h : Ps w q ts d fl) : w.cell? ⟨q, 2, none⟩ = some (.bool fl) ∧ w.frozen? ⟨q, 2, none⟩ = false := by
  obtain ⟨hTq, g, off, cap, h1, _⟩ := h
  exact ⟨cell_of_row _ _ 2 _ _ _ h1, frozen_row h1 2⟩
set_option maxRecDepth 20000 in
theorem opn_c (q : Nat) (s : Bs) (ts : List Tok) (d : Nat) (hd : d ≤ 32) (fl : Bool) (rs : Pz.Rs Unit) (hs : Pz.opn s fl d ts = some rs) (w : World) (h : Ps w q ts d fl) :
    Calls Tryz.prog 196 #[pp q, ct s] w (Out (fun _ v _ _ => v = .tuple #[]) q (d + 1) w rs) := by
  cases ts with
  | nil => simp [Pz.opn] at hs
  | cons t r =>
    have hH : Hidden (Ps w q (t :: r) d fl) := h
    simp only [Pz.opn] at hs
    by_cases hx : t.x = s
    · rw [if_pos hx] at hs
      have ki := is_any q s t r d fl true (by simpa [Hidden] using hx) w h
      by_cases h32 : d = 32
      · rw [if_pos h32] at hs
        have e : Pz.Rs.er t.p 13 = rs := by simpa using hs
        subst e
        have kf := fun w => fault_any q 13 t r d fl w
        have hb : ((d : Int) == 32) = true := by simp [h32]
        clear hs hx h h32
        unfold Out gP at *
        go_enter Tryz.func196, Tryz.ntmps196
        go_wp2_with fail
        go_at_call 65
        refine ki.mono ?_
        rintro e W1 ⟨rfl, f1⟩
        obtain ⟨c1, z1⟩ := (Ps.keepN hH f1).deep
        go_wp2_with fail
        go_at_call 109
        refine (kf _ (Ps.keepN hH f1)).mono ?_
        rintro e W2 ⟨rfl, f2⟩
        go_wp2_with fail
        exact ⟨rfl, rfl, frq (f1.same f2)⟩
      · rw [if_neg h32] at hs
        have hm : Pz.must s fl (t :: r) = some rs := by simp only [Pz.must, if_pos hx]; exact hs
        have km := fun w => must_c q s (t :: r) d fl rs hm w
        have hb : ((d : Int) == 32) = false := by rw [beq_eq_false_iff_ne]; omega
        clear hs hx h h32 hm
        go_enter Tryz.func196, Tryz.ntmps196
        go_wp2_with fail
        go_at_call 65
        refine ki.mono ?_
        rintro e W1 ⟨rfl, f1⟩
        obtain ⟨c1, z1⟩ := (Ps.keepN hH f1).deep
        go_wp2_with fail
        go_at_call 63
        refine (km _ (Ps.keepN hH f1)).mono ?_
        rcases rs with ⟨u, ts1⟩ | ⟨p, c⟩
        · rintro e W2 ⟨v, rfl, rfl, h2, f2⟩
          obtain ⟨c2, z2⟩ := h2.deep
          have h2H : Hidden (Ps W2 q ts1 d false) := h2
          clear h2
          go_wp2_with fail
          go_end0
          exact ⟨_, rfl, rfl, Ps.setDeep h2H (d + 1), ((frq f1).same f2).same (Fr.put _ q 1 _)⟩
        · rintro e W2 ⟨rfl, f2⟩
          unfold gP
          go_wp2_with fail
          exact ⟨rfl, rfl, (frq f1).same f2⟩
    · rw [if_neg hx] at hs
      have ki := is_any q s t r d fl false (by simpa [Hidden] using hx) w h
      have hm : Pz.must s fl (t :: r) = some rs := by simp only [Pz.must, if_neg hx]; exact hs
      have km := fun w => must_c q s (t :: r) d fl rs hm w
      have e : Pz.Rs.er t.p 11 = rs := by simpa using hs
      subst e
      clear hs hx h hm
      go_enter Tryz.func196, Tryz.ntmps196
      go_wp2_with fail
      go_at_call 65
      refine ki.mono ?_
      rintro e W1 ⟨rfl, f1⟩
      go_wp2_with fail
      go_at_call 63
      refine (km _ (Ps.keepN hH f1)).mono ?_
      rintro e W2 ⟨rfl, f2⟩
      unfold gP
      go_wp2_with fail
      exact ⟨rfl, rfl, (frq f1).same f2⟩
set_option maxRecDepth 20000 in
theorem shut_c (q : Nat) (s : Bs) (ts : List Tok) (d : Nat) (hd : d ≤ 32) (rs : Pz.Rs Unit) (hs : Pz.must s false ts = some rs) (w : World) (h : Ps w q ts (d + 1) false) :
    Calls Tryz.prog 198 #[pp q, ct s] w (Out (fun _ v _ _ => v = .tuple #[]) q d w rs) := by
  have km := must_c q s ts (d + 1) false rs hs w h
  clear hs h
  go_enter Tryz.func198, Tryz.ntmps198
  go_wp2_with fail
  go_at_call 63
  refine km.mono ?_
  rcases rs with ⟨u, ts1⟩ | ⟨p, c⟩
  · rintro e W2 ⟨v, rfl, rfl, h2, f2⟩
    obtain ⟨c2, z2⟩ := h2.deep
    have c3 : W2.cell? ⟨q, 1, none⟩ = some (ci ((d : Int) + 1)) := c2
    have h2H : Hidden (Ps W2 q ts1 (d + 1) false) := h2
    clear h2 c2
    go_wp2_with fail
    go_end0
    exact ⟨_, rfl, rfl, Ps.setDeep h2H d, f2.same (Fr.put _ q 1 _)⟩
  · rintro e W2 ⟨rfl, f2⟩
    unfold gP
    go_wp2_with fail
    exact ⟨rfl, rfl, f2⟩
theorem Nw.nil (B : Nat) (w : World) : Nw B w (fun w => ExL w none 0 .nil) := fun _ _ => ⟨Nat.le_refl _, by decide, Or.inl rfl⟩
set_option maxRecDepth 20000 in
theorem lit_c (ty b : Int) (w : World) : Calls Tryz.prog 222 #[.agg #[ci ty, .int .u64 b]] w fun e w' => ∃ v, e = .returned v ∧ TE (Pz.lit ty b) v w w' ∧ Fr (fun _ => False) w w' := by
  go_enter Tryz.func222, Tryz.ntmps222
  go_wp2_with fail
  exact post_one (results_cell_row rfl _ _ _ _ _ _ _ rfl (heap_alloc2_new _ _ _) Tryz.underlying59 rfl info_ex) rfl ⟨_, rfl, ⟨none, 0, rfl, Nw.nil _ _⟩, (Fr.alloc _ _ _).same (Fr.alloc _ _ _)⟩
theorem Nw.one {B : Nat} {w : World} {h : EH} {k : Exs} {ao : Option Addr} {cap b : Nat} {t : TypeId} (hk : Nw B w (fun w => ExL w ao cap k)) (hb : w.heap[b]? = some (.cells #[ci h.kind, ci h.op, ct h.mod, ct h.name, ci h.vt, .int .u64 h.vb, .slice ao k.len cap] t (0, 0))) (hB : B ≤ b) :
    Nw B w (fun w => ExL w (some ⟨b, 0, none⟩) 1 (.cons h k .nil)) := by
  intro w' hf
  have hk' := hk w' hf
  have hb' := hf.heap hb (by omega)
  refine ⟨Nat.le_refl _, by decide, Or.inr ⟨b, 0, rfl, ⟨⟨ao, cap, fun j x hx => ?_, hk'.1, hk'.2.1, hk'.2.2⟩, trivial⟩⟩⟩
  rw [Nat.zero_add, cell_of_row _ _ j _ _ _ hb']
  simpa [exC] using hx
set_option maxRecDepth 20000 in
theorem one_c (op : Int) (B : Nat) (x : Pz.Ex) (ao : Option Addr) (cap : Nat) (w : World) (hB : B ≤ w.heap.size) (hx : Nw B w (fun w => ExL w ao cap x.2)) :
    Calls Tryz.prog 221 #[ci op, .agg #[ci x.1.kind, ci x.1.op, ct x.1.mod, ct x.1.name, ci x.1.vt, .int .u64 x.1.vb, .slice ao x.2.len cap]] w fun e w' =>
      ∃ b cap', e = .returned (.agg #[ci 6, ci op, .string ⟨#[]⟩, .string ⟨#[]⟩, ci 0, .int .u64 0, .slice (some ⟨b, 0, none⟩) 1 cap']) ∧ Nw B w' (fun w => ExL w (some ⟨b, 0, none⟩) cap' (.cons x.1 x.2 .nil)) ∧ Fr (fun _ => False) w w' := by
  go_enter Tryz.func221, Tryz.ntmps221
  go_wp2_with fail
  have hf := ((Fr.alloc (fun _ => False) w (.cells #[ci x.1.kind, ci x.1.op, ct x.1.mod, ct x.1.name, ci x.1.vt, .int .u64 x.1.vb, .slice ao x.2.len cap] 59)).same (Fr.alloc _ _ (.cells #[ci 6, ci op, .string ⟨#[]⟩, .string ⟨#[]⟩, ci 0, .int .u64 0, .slice (some ⟨w.heap.size + 1 + 1, 0, none⟩) 1 1] 59))).same (Fr.alloc _ _ (.cells #[ci x.1.kind, ci x.1.op, ct x.1.mod, ct x.1.name, ci x.1.vt, .int .u64 x.1.vb, .slice ao x.2.len cap] 59))
  refine post_one (results_cell_row rfl _ _ _ _ _ _ _ rfl ((alloc_old _ _ _ (by simp)).trans (heap_alloc2_new _ _ _)) Tryz.underlying59 rfl info_ex) rfl ⟨w.heap.size + 1 + 1, 1, rfl, ?_, hf⟩
  exact (hx.step hf (fun _ f => f.elim)).one (by have := alloc_new ((w.alloc (.cells #[ci x.1.kind, ci x.1.op, ct x.1.mod, ct x.1.name, ci x.1.vt, .int .u64 x.1.vb, .slice ao x.2.len cap] 59)).alloc (.cells #[ci 6, ci op, .string ⟨#[]⟩, .string ⟨#[]⟩, ci 0, .int .u64 0, .slice (some ⟨w.heap.size + 1 + 1, 0, none⟩) 1 1] 59)) (.cells #[ci x.1.kind, ci x.1.op, ct x.1.mod, ct x.1.name, ci x.1.vt, .int .u64 x.1.vb, .slice ao x.2.len cap] 59); simpa using this) (by omega)
set_option maxRecDepth 20000 in
theorem refr_c (q : Nat) (ts : List Tok) (d : Nat) (fl : Bool) (rs : Pz.Rs Pz.Ex) (hs : Hidden (Pz.refr fl ts = some rs)) (w : World) (h : Ps w q ts d fl) :
    Calls Tryz.prog 223 #[pp q] w (Out TE q d w rs) := by
  have hq := h.lt
  have f0 := Fr.alloc (fun _ => False) w ex0
  have hP0 : Hidden (Ps (w.alloc ex0) q ts d fl) := h.keepN f0
  have hb0 : Hidden ((w.alloc ex0).heap[w.heap.size]? = some ex0) := alloc_new _ _
  clear h
  go_enter Tryz.func223, Tryz.ntmps223
  go_wp2_with fail
  go_at_call 64
  obtain ⟨r1, e1, hs⟩ := Pz.bd_some hs
  refine (name_c q ts d fl r1 e1 _ hP0).mono ?_
  clear e1
  rcases r1 with ⟨n, ts1⟩ | ⟨p, c⟩
  rotate_left
  · obtain rfl : rs = .er p c := hs
    rintro e W1 ⟨rfl, f1⟩
    unfold gP
    go_wp2_with fail
    exact ⟨rfl, rfl, (frq f0).same f1⟩
  rintro e W1 ⟨v, rfl, rfl, hP1, f1⟩
  have g1 := (frq f0).same f1
  have hb1 : Hidden (W1.heap[w.heap.size]? = some ex0) := f1.heap hb0 (by omega)
  have hP1H : Hidden (Ps W1 q ts1 d false) := hP1
  clear hP1
  go_wp2_with fail
  go_at_call 110
  obtain ⟨r2, e2, hs⟩ := Pz.bd_some hs
  refine (has_c q [46] ts1 d r2 e2 _ hP1H).mono ?_
  clear e2
  rcases r2 with ⟨b, ts2⟩ | ⟨p, c⟩
  rotate_left
  · obtain rfl : rs = .er p c := hs
    rintro e W2 ⟨rfl, f2⟩
    unfold gP
    go_wp2_with fail
    exact ⟨rfl, rfl, g1.same f2⟩
  rintro e W2 ⟨v, rfl, rfl, hP2, f2⟩
  have g2 := g1.same f2
  have hb2 : Hidden (W2.heap[w.heap.size]? = some ex0) := f2.heap hb1 (by omega)
  have hP2H : Hidden (Ps W2 q ts2 d false) := hP2
  clear hP2
  cases b
  · obtain rfl : rs = .ok (⟨2, 0, [], n, 0, 0⟩, .nil) ts2 := (Option.some.inj (show some _ = some rs from hs)).symm
    obtain ⟨a0, a1, a2, a3, a4, a5, a6, x0, x1, x2, x3, x4, x5, x6⟩ := box7 hb2
    go_wp2_with fail
    have fs := set7_fr W2 w.heap.size (ci 2) (ci 0) (.string ⟨#[]⟩) (ct n) (ci 0) (.int .u64 0) (.slice none 0 0)
    exact post_ex hb2 rfl rfl rfl ⟨_, rfl, ⟨none, 0, rfl, Nw.nil _ _⟩, Ps.high hP2H fs (fun k hk => by subst hk; exact hq), g2.over fs (fun k hk => by subst hk; exact Nat.le_refl _)⟩
  · go_wp2_with fail
    go_at_call 64
    obtain ⟨r3, e3, hs⟩ := Pz.bd_some hs
    refine (name_c q ts2 d false r3 e3 _ hP2H).mono ?_
    clear e3
    rcases r3 with ⟨m, ts3⟩ | ⟨p, c⟩
    rotate_left
    · obtain rfl : rs = .er p c := hs
      rintro e W3 ⟨rfl, f3⟩
      unfold gP
      go_wp2_with fail
      exact ⟨rfl, rfl, g2.same f3⟩
    rintro e W3 ⟨v, rfl, rfl, hP3, f3⟩
    have g3 := g2.same f3
    have hb3 : Hidden (W3.heap[w.heap.size]? = some ex0) := f3.heap hb2 (by omega)
    have hP3H : Hidden (Ps W3 q ts3 d false) := hP3
    clear hP3
    obtain rfl : rs = .ok (⟨3, 0, n, m, 0, 0⟩, .nil) ts3 := (Option.some.inj (show some _ = some rs from hs)).symm
    obtain ⟨a0, a1, a2, a3, a4, a5, a6, x0, x1, x2, x3, x4, x5, x6⟩ := box7 hb3
    go_wp2_with fail
    have fs := set7_fr W3 w.heap.size (ci 3) (ci 0) (ct n) (ct m) (ci 0) (.int .u64 0) (.slice none 0 0)
    exact post_ex hb3 rfl rfl rfl ⟨_, rfl, ⟨none, 0, rfl, Nw.nil _ _⟩, Ps.high hP3H fs (fun k hk => by subst hk; exact hq), g3.over fs (fun k hk => by subst hk; exact Nat.le_refl _)⟩
end Go.Proofs.YteijjaabngkbjaaGreatDoor
