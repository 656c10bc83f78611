/- Plain: an expression's tokens are read as that expression: operators of two, parentheses. -/
import Derived.Test.YtpkaekokkhecmaaGreatDoorPsD
namespace Go.Proofs.YtpkaekokkhecmaaGreatDoor
set_option linter.unusedSimpArgs false
set_option linter.unusedVariables false
set_option linter.unusedSectionVars false
namespace Pz
open Lx Te
open Go.RowKit (wrap64)

theorem Fin.mono {a b : Nat} {rest : List Tok} (h : Fin a rest) (hab : a ≤ b) : Fin b rest := by
  obtain ⟨t, r, rfl, h1, h2, h3⟩ := h
  exact ⟨t, r, rfl, h1, h2, by omega⟩
theorem op_cases {op : Int} (h1 : 1 ≤ op) (h2 : op ≤ 13) : op = 1 ∨ op = 2 ∨ op = 3 ∨ op = 4 ∨ op = 5 ∨ op = 6 ∨ op = 7 ∨ op = 8 ∨ op = 9 ∨ op = 10 ∨ op = 11 ∨ op = 12 ∨ op = 13 := by omega
/-- Its level, as a number; its mark is read as it. -/
theorem mk2_op {op : Int} (h1 : 1 ≤ op) (h2 : op ≤ 13) : ∃ lv : Nat, lv2 op = (lv : Int) ∧ 1 ≤ lv ∧ lv ≤ 5 ∧ opOf (mk2 op) = (op, lv) ∧ mk2 op ≠ [46] ∧ mk2 op ≠ [40] := by
  rcases op_cases h1 h2 with rfl | rfl | rfl | rfl | rfl | rfl | rfl | rfl | rfl | rfl | rfl | rfl | rfl
  · exact ⟨4, by decide⟩
  · exact ⟨4, by decide⟩
  · exact ⟨5, by decide⟩
  · exact ⟨5, by decide⟩
  · exact ⟨5, by decide⟩
  · exact ⟨3, by decide⟩
  · exact ⟨3, by decide⟩
  · exact ⟨3, by decide⟩
  · exact ⟨3, by decide⟩
  · exact ⟨3, by decide⟩
  · exact ⟨3, by decide⟩
  · exact ⟨2, by decide⟩
  · exact ⟨1, by decide⟩
section
variable {rn : Bs → Int} {cn : Int → Int} {tx : Int → Int → Bs} (L : Law rn cn tx)
include L
theorem two_kids {k : Exs} (h : k.len = 2) : ∃ x kx y ky, k = .cons x kx (.cons y ky .nil) := by
  cases k with
  | nil => simp [Exs.len] at h
  | cons x kx r =>
    obtain ⟨y, ky, rfl⟩ := one_kid L (show r.len = 1 by simp only [Exs.len] at h; omega)
    exact ⟨x, kx, y, ky, rfl⟩
/-- The parts of an operator of two. -/
theorem bin_parts (h : EH) (k : Exs) (hR : RX rn cn h k) (hk : h.kind = 7) : ∃ (op : Int) (lv : Nat) (x : EH) (kx : Exs) (y : EH) (ky : Exs), h = ⟨7, op, [], [], 0, 0⟩ ∧ k = .cons x kx (.cons y ky .nil) ∧ 1 ≤ lv ∧ lv ≤ 5 ∧ opOf (mk2 op) = (op, lv) ∧ mk2 op ≠ [46] ∧ mk2 op ≠ [40] ∧ level h = (lv : Int) ∧
    kidL h true = (if lv = 3 then 4 else (lv : Int)) ∧ kidL h false = (lv : Int) + 1 ∧ kidD h = 0 := by
  obtain ⟨hfit, hnm, hlen, hL⟩ := fits_of L hR
  obtain ⟨kind, op, mod, name, vt, vb⟩ := h
  simp only at hk
  subst hk
  simp [fitsE] at hfit
  obtain ⟨o1, o2, h2, rfl, rfl, rfl, rfl⟩ := hfit
  obtain ⟨x, kx, y, ky, rfl⟩ := two_kids L h2
  obtain ⟨lv, e1, e2, e3, e4, e5, e6⟩ := mk2_op o1 o2
  refine ⟨op, lv, x, kx, y, ky, rfl, rfl, e2, e3, e4, e5, e6, by simp [level, e1], ?_, ?_, by simp [kidD]⟩
  · simp only [kidL, side, e1]
    by_cases h3 : lv = 3
    · subst h3; simp
    · simp only [if_neg h3]
      rw [if_neg (by decide), if_pos trivial, if_neg (by omega), if_neg (fun h => by rcases h with h | h; (cases h); (omega))]
  · simp only [kidL, side, e1]
    rw [if_neg (by decide), if_pos trivial, if_neg (by omega), if_pos (Or.inl trivial)]
theorem bin_toks (op : Int) (x : EH) (kx : Exs) (y : EH) (ky : Exs) (rest : List Tok) : kB tx ⟨7, op, [], [], 0, 0⟩ (.cons x kx (.cons y ky .nil)) ++ rest = kA tx x kx (kidL ⟨7, op, [], [], 0, 0⟩ true) ++ (tM (mk2 op) :: (kA tx y ky (kidL ⟨7, op, [], [], 0, 0⟩ false) ++ rest)) := by
  simp [kB, kP, kK, kPo, kSe, kA]
/-- As a loop has it. -/
theorem chain (h : EH) (k : Exs) (hR : RX rn cn h k) (hN : NnX k) (hk : h.kind = 7) (m : Nat) (hm : m ≤ 4) (hm2 : m ≠ 2) (hlv : level h = ((5 - m : Nat) : Int)) (IH : ∀ h' k', RX rn cn h' k' → 0 ≤ h'.vb → NnX k' → k'.size < k.size → Kid tx h' k' ∧ Chn tx h' k') (f g d : Nat) (rest : List Tok)
    (h1 : (kB tx h k ++ rest).length ≤ f + 1) (h2 : (kB tx h k ++ rest).length ≤ g) (hd : d ≤ 32) (hD : dB h k (d : Int) ≤ 32) (hF : Fin (6 - m) rest) :
    ∃ g', rest.length ≤ g' ∧ two (expr f) g (m + 1) false d (kB tx h k ++ rest) = lp (two (expr f) g m false d) (5 - m) g' (h, k) rest := by
  obtain ⟨_, _, _, hL⟩ := fits_of L hR
  obtain ⟨op, lv, x, kx, y, ky, rfl, rfl, l1, l2, hop, n1, n2, hl, kL1, kL2, kD⟩ := bin_parts L h k hR hk
  obtain rfl : 5 - m = lv := by omega
  obtain ⟨hRx, hL2⟩ := RX_kid hL
  obtain ⟨hRy, _⟩ := RX_kid hL2
  rw [if_neg (by omega)] at kL1
  obtain ⟨_, dx, a2, hD2⟩ := dK_cons (by omega) (by omega) hD
  obtain ⟨_, dy, _, _⟩ := dK_cons (by omega) (by omega) hD2
  rw [kL1, kD, Int.add_zero] at dx
  rw [kL2, kD, Int.add_zero] at dy
  rw [bin_toks L, kL1, kL2] at h1 h2 ⊢
  have hFm : Fin (6 - m) (tM (mk2 op) :: (kA tx y ky (((5 - m : Nat) : Int) + 1) ++ rest)) := fin_t _ _ _ n1 n2 (by show (opOf (mk2 op)).2 < 6 - m; rw [hop]; simp only; omega)
  obtain ⟨g1, hg1, e1⟩ := (IH x kx hRx hN.1 hN.2.1 (by simp only [Exs.size]; omega)).2 f g d m _ hm hm2 h1 h2 hd dx hFm
  rw [e1]
  simp only [List.length_cons, List.length_append] at hg1 h1 h2
  obtain ⟨g2, rfl⟩ : ∃ x, g1 = x + 1 := ⟨g1 - 1, by omega⟩
  have e6 : ((5 - m : Nat) : Int) + 1 = ((6 - m : Nat) : Int) := by omega
  rw [e6] at dy h1 h2 hg1 ⊢
  have hy := (IH y ky hRy hN.2.2.1 hN.2.2.2.1 (by simp only [Exs.size]; omega)).1 f g d m rest (by omega) (by simp only [List.length_append]; omega) (by simp only [List.length_append]; omega) hd dy hF
  refine ⟨g2, by omega, ?_⟩
  rw [lp, if_neg (by show ¬ (opOf (mk2 op)).2 ≠ 5 - m; rw [hop]; simp), hy, bd_ok, if_neg (by omega)]
  show lp _ _ g2 (bin (opOf (mk2 op)).1 (x, kx) (y, ky)) rest = _
  rw [hop]
  rfl
theorem comp (h : EH) (k : Exs) (hR : RX rn cn h k) (hN : NnX k) (hk : h.kind = 7) (hlv : level h = 3) (IH : ∀ h' k', RX rn cn h' k' → 0 ≤ h'.vb → NnX k' → k'.size < k.size → Kid tx h' k' ∧ Chn tx h' k') (f g d : Nat) (rest : List Tok)
    (h1 : (kB tx h k ++ rest).length ≤ f + 1) (h2 : (kB tx h k ++ rest).length ≤ g) (hd : d ≤ 32) (hD : dB h k (d : Int) ≤ 32) (hF : Fin 4 rest) :
    two (expr f) g 3 false d (kB tx h k ++ rest) = some (.ok (h, k) rest) := by
  obtain ⟨_, _, _, hL⟩ := fits_of L hR
  obtain ⟨op, lv, x, kx, y, ky, rfl, rfl, l1, l2, hop, n1, n2, hl, kL1, kL2, kD⟩ := bin_parts L h k hR hk
  obtain rfl : lv = 3 := by omega
  obtain ⟨hRx, hL2⟩ := RX_kid hL
  obtain ⟨hRy, _⟩ := RX_kid hL2
  rw [if_pos rfl] at kL1
  obtain ⟨_, dx, a2, hD2⟩ := dK_cons (by omega) (by omega) hD
  obtain ⟨_, dy, _, _⟩ := dK_cons (by omega) (by omega) hD2
  rw [kL1, kD, Int.add_zero] at dx
  rw [kL2, kD, Int.add_zero] at dy
  have e4 : ((3 : Nat) : Int) + 1 = ((6 - 2 : Nat) : Int) := by decide
  have e4' : (4 : Int) = ((6 - 2 : Nat) : Int) := by decide
  rw [bin_toks L, kL1, kL2] at h1 h2 ⊢
  rw [e4] at dy h1 h2 ⊢
  rw [e4'] at dx h1 h2 ⊢
  have hF2 : Fin (6 - 2) (tM (mk2 op) :: (kA tx y ky ((6 - 2 : Nat) : Int) ++ rest)) := fin_t _ _ _ n1 n2 (by show (opOf (mk2 op)).2 < 6 - 2; rw [hop]; simp only; omega)
  have hx := (IH x kx hRx hN.1 hN.2.1 (by simp only [Exs.size]; omega)).1 f g d 2 _ (by omega) h1 h2 hd dx hF2
  simp only [List.length_cons, List.length_append] at h1 h2
  have hy := (IH y ky hRy hN.2.2.1 hN.2.2.2.1 (by simp only [Exs.size]; omega)).1 f g d 2 rest (by omega) (by simp only [List.length_append]; omega) (by simp only [List.length_append]; omega) hd dy hF
  obtain ⟨g2, rfl⟩ : ∃ x, g = x + 1 := ⟨g - 1, by omega⟩
  rw [two, hx, bd_ok, lp, if_neg (by show ¬ (opOf (mk2 op)).2 ≠ 5 - 2; rw [hop]; simp), hy, bd_ok, if_pos (by rfl)]
  show some (Rs.ok (bin (opOf (mk2 op)).1 (x, kx) (y, ky)) rest) = _
  rw [hop]
  rfl
theorem bin_of (h : EH) (k : Exs) (hR : RX rn cn h k) (hl : level h < 6) : h.kind = 7 := by
  obtain ⟨hfit, _, _, _⟩ := fits_of L hR
  unfold level at hl
  by_cases e : h.kind = 6
  · rw [if_pos e] at hl
    split at hl <;> omega
  · rw [if_neg e] at hl
    by_cases e7 : h.kind = 7
    · exact e7
    · rw [if_neg e7] at hl; omega
/-- Without parentheses, at a level that is no higher. -/
theorem bare (h : EH) (k : Exs) (hR : RX rn cn h k) (h0 : 0 ≤ h.vb) (hN : NnX k) (IH : ∀ h' k', RX rn cn h' k' → 0 ≤ h'.vb → NnX k' → k'.size < k.size → Kid tx h' k' ∧ Chn tx h' k') (IHU : ∀ h' k', RX rn cn h' k' → 0 ≤ h'.vb → NnX k' → k'.size < k.size → Kid tx h' k' ∧ KidU tx h' k') (f g d n : Nat) (hn : n ≤ 5) (hl : ((6 - n : Nat) : Int) ≤ level h) (rest : List Tok)
    (h1 : (kB tx h k ++ rest).length ≤ f + 1) (h2 : (kB tx h k ++ rest).length ≤ g) (hd : d ≤ 32) (hD : dB h k (d : Int) ≤ 32) (hF : Fin (6 - n) rest) :
    two (expr f) g n false d (kB tx h k ++ rest) = some (.ok (h, k) rest) := by
  have hg : 0 < g := by
    obtain ⟨t, r, rfl, _⟩ := hF
    simp only [List.length_append, List.length_cons] at h2
    omega
  by_cases h6 : 6 ≤ level h
  · have h00 : two (expr f) g 0 false d (kB tx h k ++ rest) = some (.ok (h, k) rest) := by
      rw [two]
      exact bareU L h k hR h0 hN h6 IHU f g g d rest h1 h2 h2 hd hD (hF.mono (by omega))
    exact two_up hg h00 n (by omega) hn hF
  · have hk := bin_of L h k hR (by omega)
    obtain ⟨op, lv, _, _, _, _, _, _, l1, l2, _, _, _, hlv, _⟩ := bin_parts L h k hR hk
    by_cases h3 : lv = 3
    · subst h3
      have hc := comp L h k hR hN hk hlv IH f g d rest h1 h2 hd hD (hF.mono (by omega))
      exact two_up hg hc n (by omega) hn hF
    · obtain ⟨g', hg', e⟩ := chain L h k hR hN hk (5 - lv) (by omega) (by omega) (by rw [hlv]; congr 1; omega) IH f g d rest h1 h2 hd hD (hF.mono (by omega))
      have hc : two (expr f) g (5 - lv + 1) false d (kB tx h k ++ rest) = some (.ok (h, k) rest) := by
        rw [e]
        obtain ⟨t, r, rfl, t1, t2, t3⟩ := hF
        simp only [List.length_cons] at hg'
        obtain ⟨g2, rfl⟩ : ∃ x, g' = x + 1 := ⟨g' - 1, by omega⟩
        rw [lp, if_pos (by omega)]
      exact two_up hg hc n (by omega) hn hF
/-- In parentheses. -/
theorem paren (h : EH) (k : Exs) (hR : RX rn cn h k) (h0 : 0 ≤ h.vb) (hN : NnX k) (IH : ∀ h' k', RX rn cn h' k' → 0 ≤ h'.vb → NnX k' → k'.size < k.size → Kid tx h' k' ∧ Chn tx h' k') (IHU : ∀ h' k', RX rn cn h' k' → 0 ≤ h'.vb → NnX k' → k'.size < k.size → Kid tx h' k' ∧ KidU tx h' k') (f g f' d : Nat) (rest : List Tok)
    (h1 : (tM [40] :: (kB tx h k ++ [tM [41]]) ++ rest).length ≤ f + 1) (h3 : 0 < f') (hd : d + 1 ≤ 32) (hD : dB h k ((d : Int) + 1) ≤ 32) :
    un (expr f) g f' false d (tM [40] :: (kB tx h k ++ [tM [41]]) ++ rest) = some (.ok (h, k) rest) := by
  have hl := level_r h
  have hT : tM [40] :: (kB tx h k ++ [tM [41]]) ++ rest = tM [40] :: (kB tx h k ++ tM [41] :: rest) := by simp
  rw [hT] at h1 ⊢
  simp only [List.length_cons, List.length_append] at h1
  obtain ⟨f', rfl⟩ : ∃ x, f' = x + 1 := ⟨f' - 1, by omega⟩
  obtain ⟨f, rfl⟩ : ∃ x, f = x + 1 := ⟨f - 1, by omega⟩
  have hE : expr (f + 1) false (d + 1) (kB tx h k ++ tM [41] :: rest) = some (.ok (h, k) (tM [41] :: rest)) := by
    rw [expr]
    exact bare L h k hR h0 hN IH IHU f (f + 1) (d + 1) 5 (by omega) (by show ((6 - 5 : Nat) : Int) ≤ level h; omega) (tM [41] :: rest) (by simp only [List.length_append, List.length_cons]; omega) (by simp only [List.length_append, List.length_cons]; omega) (by omega) (by exact_mod_cast hD) (fin_t _ _ _ (by decide) (by decide) (by decide))
  rw [un_pr (by decide) (by decide), pr, if_neg (by decide), if_neg (by decide), if_neg (by decide), if_neg (by decide), if_neg (by decide), if_neg (by decide), if_neg (by decide), if_neg (by decide), if_neg (by decide), ins, opn, if_pos (by rfl), if_neg (by omega), if_neg (by decide), bd_ok, hE, bd_ok, must, if_pos (by rfl), if_neg (by decide), bd_ok]
theorem kA_pos {h : EH} {k : Exs} {least : Int} (hl : level h < least) : kA tx h k least = tM [40] :: (kB tx h k ++ [tM [41]]) := by
  unfold kA kPar
  rw [if_pos (by simpa using hl)]
theorem kA_neg {h : EH} {k : Exs} {least : Int} (hl : ¬ level h < least) : kA tx h k least = kB tx h k := by
  unfold kA kPar
  rw [if_neg (by simpa using hl)]
/-- All of it. -/
theorem kids : ∀ (n : Nat) (h : EH) (k : Exs), k.size < n → RX rn cn h k → 0 ≤ h.vb → NnX k → Kid tx h k ∧ KidU tx h k ∧ Chn tx h k := by
  intro n
  induction n with
  | zero => intro h k hn; omega
  | succ n ih =>
    intro h k hs hR h0 hN
    have IH : ∀ h' k', RX rn cn h' k' → 0 ≤ h'.vb → NnX k' → k'.size < k.size → Kid tx h' k' ∧ Chn tx h' k' := fun h' k' r1 r2 r3 r4 => ⟨(ih h' k' (by omega) r1 r2 r3).1, (ih h' k' (by omega) r1 r2 r3).2.2⟩
    have IHU : ∀ h' k', RX rn cn h' k' → 0 ≤ h'.vb → NnX k' → k'.size < k.size → Kid tx h' k' ∧ KidU tx h' k' := fun h' k' r1 r2 r3 r4 => ⟨(ih h' k' (by omega) r1 r2 r3).1, (ih h' k' (by omega) r1 r2 r3).2.1⟩
    have pos : ∀ {lv : Nat} {rest : List Tok} {T : List Tok}, Fin lv rest → 0 < (T ++ rest).length := by
      intro lv rest T hF
      obtain ⟨t, r, rfl, _⟩ := hF
      simp only [List.length_append, List.length_cons]
      omega
    have hU : KidU tx h k := by
      intro f g f' d rest h1 h2 h3 hd hD hF
      by_cases hl : level h < 6
      · rw [kA_pos L hl] at h1 h2 h3 ⊢
        obtain ⟨d1, d2⟩ := dX_par (by omega) (by omega) hD hl
        exact paren L h k hR h0 hN IH IHU f g f' d rest h1 (by have := pos (T := tM [40] :: (kB tx h k ++ [tM [41]])) hF; omega) (by omega) d2
      · rw [kA_neg L hl] at h1 h2 h3 ⊢
        exact bareU L h k hR h0 hN (by omega) IHU f g f' d rest h1 h2 h3 hd (dX_no hD hl) hF
    have hK : Kid tx h k := by
      intro f g d n rest hn h1 h2 hd hD hF
      by_cases hl : level h < ((6 - n : Nat) : Int)
      · rw [kA_pos L hl] at h1 h2 ⊢
        obtain ⟨d1, d2⟩ := dX_par (by omega) (by omega) hD hl
        have hg := pos (T := tM [40] :: (kB tx h k ++ [tM [41]])) hF
        have h00 : two (expr f) g 0 false d (tM [40] :: (kB tx h k ++ [tM [41]]) ++ rest) = some (.ok (h, k) rest) := by
          rw [two]
          exact paren L h k hR h0 hN IH IHU f g g d rest h1 (by omega) (by omega) d2
        exact two_up (by omega) h00 n (by omega) hn hF
      · rw [kA_neg L hl] at h1 h2 ⊢
        exact bare L h k hR h0 hN IH IHU f g d n hn (by omega) rest h1 h2 hd (dX_no hD hl) hF
    refine ⟨hK, hU, ?_⟩
    intro f g d m rest hm hm2 h1 h2 hd hD hF
    by_cases he : level h = ((5 - m : Nat) : Int)
    · have hl : ¬ level h < ((5 - m : Nat) : Int) := by omega
      rw [kA_neg L hl] at h1 h2 ⊢
      exact chain L h k hR hN (bin_of L h k hR (by omega)) m hm hm2 he IH f g d rest h1 h2 hd (dX_no hD hl) hF
    · have eA : kA tx h k ((5 - m : Nat) : Int) = kA tx h k ((6 - m : Nat) : Int) := by
        by_cases hl : level h < ((5 - m : Nat) : Int)
        · rw [kA_pos L hl, kA_pos L (by omega)]
        · rw [kA_neg L hl, kA_neg L (by omega)]
      have eD : dX h k ((5 - m : Nat) : Int) (d : Int) = dX h k ((6 - m : Nat) : Int) (d : Int) := by
        unfold dX inAt
        by_cases hl : level h < ((5 - m : Nat) : Int)
        · rw [if_pos hl, if_pos (by omega)]
        · rw [if_neg hl, if_neg (by omega)]
      rw [eA] at h1 h2 ⊢
      rw [eD] at hD
      refine ⟨g, by simp only [List.length_append] at h2; omega, ?_⟩
      rw [two, hK f g d m rest (by omega) h1 h2 hd hD hF, bd_ok]
/-- An expression's tokens, read. -/
theorem expr_back (h : EH) (k : Exs) (hR : RX rn cn h k) (h0 : 0 ≤ h.vb) (hN : NnX k) (f d : Nat) (rest : List Tok) (hf : (kB tx h k ++ rest).length < f) (hd : d ≤ 32) (hD : dX h k 1 (d : Int) ≤ 32) (hF : Fin 1 rest) : expr f false d (kB tx h k ++ rest) = some (.ok (h, k) rest) :=
  expr_kid (kids L (k.size + 1) h k (by omega) hR h0 hN).1 f d rest hf hd (dX_no hD (by have := level_r h; omega)) hF
end
end Pz
end Go.Proofs.YtpkaekokkhecmaaGreatDoor
