/- Plain: an expression's tokens are read as that expression. -/
import Derived.Test.YtpkaekokkhecmaaGreatDoorPsF
namespace Go.Proofs.YtpkaekokkhecmaaGreatDoor
set_option linter.unusedSimpArgs false
set_option linter.unusedVariables false
namespace Pz
open Lx Te
open Go.RowKit (wrap64)

def tW (x : Bs) : Tok := ⟨2, x, 0, 0, 0⟩
def tM (x : Bs) : Tok := ⟨5, x, 0, 0, 0⟩
def tN (x : Bs) : Tok := ⟨1, x, 0, 0, 0⟩
/-- The mark of an operator of two. -/
def mk2 (op : Int) : Bs :=
  if op = 1 then [43] else if op = 2 then [45] else if op = 3 then [42] else if op = 4 then [47] else if op = 5 then [37] else if op = 6 then [61, 61] else if op = 7 then [33, 61] else if op = 8 then [60] else if op = 9 then [60, 61]
  else if op = 10 then [62] else if op = 11 then [62, 61] else if op = 12 then [38, 38] else [124, 124]
section
variable (tx : Int → Int → Bs)
def tL (vt vb : Int) : Tok :=
  if vt = 1 then ⟨3, tx 1 vb, 1, vb, 0⟩ else if vt = 2 then (if vb = 9218868437227405312 then tW [105, 110, 102] else if vb = 9221120237041090561 then tW [110, 97, 110] else ⟨4, tx 2 vb, 2, vb, 0⟩)
  else if vb = 0 then tW [102, 97, 108, 115, 101] else tW [116, 114, 117, 101]
def kP (h : EH) : List Tok :=
  if h.kind = 1 then [tL tx h.vt h.vb] else if h.kind = 2 then [tN h.name] else if h.kind = 3 then [tN h.mod, tM [46], tN h.name]
  else if h.kind = 4 then [tN h.name, tM [40]] else if h.kind = 5 then [tN h.mod, tM [46], tN h.name, tM [40]]
  else if h.kind = 6 then (if h.op = 1 then [tM [45]] else if h.op = 2 then [tM [33]] else if h.op = 3 then [tW [105, 110, 116], tM [40]] else [tW [102, 108, 111, 97, 116], tM [40]])
  else if h.kind = 7 then [] else [tW [105, 110, 112, 117, 116]]
def kPo (h : EH) : List Tok := if h.kind = 4 ∨ h.kind = 5 then [tM [41]] else if h.kind = 6 ∧ ¬ (h.op = 1 ∨ h.op = 2) then [tM [41]] else []
def kSe (h : EH) : List Tok := if h.kind = 7 then [tM (mk2 h.op)] else [tM [44]]
def kPar (b : Bool) (l : List Tok) : List Tok := if b then tM [40] :: (l ++ [tM [41]]) else l
def kK (p : EH) : Bool → Exs → List Tok
  | _, .nil => []
  | first, .cons h k r => (if first then [] else kSe p) ++ kPar (decide (level h < kidL p first)) (kP tx h ++ kK h true k ++ kPo h) ++ kK p false r
def kB (h : EH) (k : Exs) : List Tok := kP tx h ++ kK tx h true k ++ kPo h
def kA (h : EH) (k : Exs) (least : Int) : List Tok := kPar (decide (level h < least)) (kB tx h k)
end
/-- What may stand behind an expression at a level. -/
def Fin (lv : Nat) (rest : List Tok) : Prop := ∃ t r, rest = t :: r ∧ t.x ≠ [46] ∧ t.x ≠ [40] ∧ (opOf t.x).2 < lv
/- What is right, all through. -/
section
variable (rn : Bs → Int) (cn : Int → Int)
def RX (h : EH) (k : Exs) : Prop := errH rn cn h k.len = 0 ∧ errL rn cn k = 0
end
def NnX : Exs → Prop
  | .nil => True
  | .cons h k r => 0 ≤ h.vb ∧ NnX k ∧ NnX r
def dB (h : EH) (k : Exs) (a : Int) : Int := dK h k true a a

theorem orE_0 {a b : Int} (h : orE a b = 0) : a = 0 ∧ b = 0 := by
  unfold orE at h
  split at h
  · exact ⟨by assumption, h⟩
  · exact absurd h (by assumption)
theorem RX_kid {rn : Bs → Int} {cn : Int → Int} {h : EH} {k r : Exs} (hr : errL rn cn (.cons h k r) = 0) : RX rn cn h k ∧ errL rn cn r = 0 := by
  rw [errL] at hr
  obtain ⟨a, b⟩ := orE_0 hr
  obtain ⟨c, d⟩ := orE_0 a
  exact ⟨⟨c, d⟩, b⟩
theorem dK_acc (p : EH) : ∀ (k : Exs) (first : Bool) (a acc : Int), acc ≤ dK p k first a acc
  | .nil, _, _, acc => Int.le_refl _
  | .cons h k r, first, a, acc => by
    rw [dK]
    have := dK_acc p r false a (max acc (dK h k true (inAt h (kidL p first) (wrap64 (a + kidD p))) (inAt h (kidL p first) (wrap64 (a + kidD p)))))
    omega
theorem wrap_sm {a : Int} (h0 : 0 ≤ a) (h1 : a ≤ 100) : wrap64 a = a := by unfold wrap64; omega
theorem kidD_r (p : EH) : 0 ≤ kidD p ∧ kidD p ≤ 1 := by
  unfold kidD
  repeat' split
  all_goals omega
/-- The first of Kids, and the rest. -/
theorem dK_cons {p h : EH} {k r : Exs} {first : Bool} {a acc : Int} (h0 : 0 ≤ a) (h1 : a ≤ 32) (H : dK p (.cons h k r) first a acc ≤ 32) : a + kidD p ≤ 32 ∧ dX h k (kidL p first) (a + kidD p) ≤ 32 ∧ ∃ acc', dK p r false a acc' ≤ 32 := by
  rw [dK] at H
  have hk := kidD_r p
  have h2 := dK_acc p r false a (max acc (dK h k true (inAt h (kidL p first) (wrap64 (a + kidD p))) (inAt h (kidL p first) (wrap64 (a + kidD p)))))
  rw [wrap_sm (by omega) (by omega)] at *
  have h3 := dK_acc h k true (inAt h (kidL p first) (a + kidD p)) (inAt h (kidL p first) (a + kidD p))
  refine ⟨?_, ?_, _, H⟩
  · unfold inAt at h3 h2 H
    split at h3
    · rename_i hc
      rw [if_pos hc, wrap_sm (by omega) (by omega)] at *
      omega
    · rename_i hc
      simp only [if_neg hc] at *
      omega
  · unfold dX
    omega
theorem dX_par {h : EH} {k : Exs} {least a : Int} (h0 : 0 ≤ a) (h1 : a ≤ 32) (H : dX h k least a ≤ 32) (hl : level h < least) : a + 1 ≤ 32 ∧ dB h k (a + 1) ≤ 32 := by
  unfold dX inAt at H
  rw [if_pos hl, wrap_sm (by omega) (by omega)] at H
  have := dK_acc h k true (a + 1) (a + 1)
  exact ⟨by omega, H⟩
theorem dX_no {h : EH} {k : Exs} {least a : Int} (H : dX h k least a ≤ 32) (hl : ¬ level h < least) : dB h k a ≤ 32 := by
  unfold dX inAt at H
  rw [if_neg hl] at H
  exact H
theorem dX_of {h : EH} {k : Exs} {least a : Int} (H : dB h k a ≤ 32) (hl : ¬ level h < least) : dX h k least a ≤ 32 := by
  unfold dX inAt
  rw [if_neg hl]
  exact H

/-- Operators of a higher level see nothing of theirs. -/
theorem two_up {E : Bool → Nat → List Tok → Ou Ex} {g d : Nat} {fl : Bool} {ts rest : List Tok} {e : Ex} (hg : 0 < g) {m : Nat} (H : two E g m fl d ts = some (.ok e rest)) : ∀ (n : Nat), m ≤ n → n ≤ 5 → Fin (6 - n) rest → two E g n fl d ts = some (.ok e rest) := by
  intro n
  induction n with
  | zero => intro h1 _ _; cases m with
    | zero => exact H
    | succ m => omega
  | succ n ih =>
    intro h1 h2 hF
    by_cases hm : m = n + 1
    · subst hm; exact H
    · obtain ⟨t, r, rfl, hx1, hx2, hx3⟩ := hF
      rw [two, ih (by omega) (by omega) ⟨t, r, rfl, hx1, hx2, by omega⟩, bd_ok]
      obtain ⟨g', rfl⟩ : ∃ g', g = g' + 1 := ⟨g - 1, by omega⟩
      rw [lp, if_pos (by omega)]

/-- What is asked of names and of literals' texts. -/
structure Law (rn : Bs → Int) (cn : Int → Int) (tx : Int → Int → Bs) : Prop where
  nm : ∀ x, rn x = 0 → ∃ c r, x = c :: r ∧ ltr c = true
  int : ∀ vb, 0 ≤ vb → ∃ c r, tx 1 vb = c :: r ∧ dgt c = true
  flo : ∀ vb, 0 ≤ vb → litOk cn 2 vb = true → vb ≠ 9218868437227405312 → vb ≠ 9221120237041090561 → ∃ c r, tx 2 vb = c :: r ∧ dgt c = true
theorem ltr_no {c : UInt8} (h : ltr c = true) : c ≠ 45 ∧ c ≠ 33 ∧ c ≠ 40 ∧ c ≠ 41 ∧ c ≠ 46 ∧ c ≠ 44 := by
  refine ⟨?_, ?_, ?_, ?_, ?_, ?_⟩ <;> (intro e; subst e; revert h; decide)
theorem dgt_no {c : UInt8} (h : dgt c = true) : c ≠ 45 ∧ c ≠ 33 ∧ c ≠ 40 ∧ c ≠ 41 ∧ c ≠ 46 ∧ c ≠ 44 := by
  refine ⟨?_, ?_, ?_, ?_, ?_, ?_⟩ <;> (intro e; subst e; revert h; decide)
theorem un_pr {E : Bool → Nat → List Tok → Ou Ex} {g f d : Nat} {fl : Bool} {t : Tok} {r : List Tok} (h1 : t.x ≠ [45]) (h2 : t.x ≠ [33]) : un E g (f + 1) fl d (t :: r) = pr E g fl d (t :: r) := by
  rw [un, if_neg h1, if_neg h2]
theorem len0 {k : Exs} (h : k.len = 0) : k = .nil := by
  cases k with
  | nil => rfl
  | cons _ _ _ => simp [Exs.len] at h
theorem level_r (h : EH) : 1 ≤ level h ∧ level h ≤ 7 := by
  have : 1 ≤ lv2 h.op ∧ lv2 h.op ≤ 7 := by
    unfold lv2
    repeat' split
    all_goals omega
  unfold level
  repeat' split
  all_goals omega
section
variable {rn : Bs → Int} {cn : Int → Int} {tx : Int → Int → Bs} (L : Law rn cn tx)
/-- At a level, in parentheses or not. -/
def KidU (tx : Int → Int → Bs) (h : EH) (k : Exs) : Prop := ∀ (f g f' d : Nat) (rest : List Tok), (kA tx h k 6 ++ rest).length ≤ f + 1 → (kA tx h k 6 ++ rest).length ≤ g → (kA tx h k 6 ++ rest).length ≤ f' → d ≤ 32 → dX h k 6 (d : Int) ≤ 32 → Fin 6 rest →
  un (expr f) g f' false d (kA tx h k 6 ++ rest) = some (.ok (h, k) rest)
def Kid (tx : Int → Int → Bs) (h : EH) (k : Exs) : Prop := ∀ (f g d n : Nat) (rest : List Tok), n ≤ 5 → (kA tx h k ((6 - n : Nat) : Int) ++ rest).length ≤ f + 1 → (kA tx h k ((6 - n : Nat) : Int) ++ rest).length ≤ g → d ≤ 32 → dX h k ((6 - n : Nat) : Int) (d : Int) ≤ 32 → Fin (6 - n) rest →
  two (expr f) g n false d (kA tx h k ((6 - n : Nat) : Int) ++ rest) = some (.ok (h, k) rest)
def Chn (tx : Int → Int → Bs) (h : EH) (k : Exs) : Prop := ∀ (f g d m : Nat) (rest : List Tok), m ≤ 4 → m ≠ 2 → (kA tx h k ((5 - m : Nat) : Int) ++ rest).length ≤ f + 1 → (kA tx h k ((5 - m : Nat) : Int) ++ rest).length ≤ g → d ≤ 32 → dX h k ((5 - m : Nat) : Int) (d : Int) ≤ 32 → Fin (6 - m) rest →
  ∃ g', rest.length ≤ g' ∧ two (expr f) g (m + 1) false d (kA tx h k ((5 - m : Nat) : Int) ++ rest) = lp (two (expr f) g m false d) (5 - m) g' (h, k) rest
/-- Within parentheses, as an argument, alone. -/
theorem expr_kid {h : EH} {k : Exs} (hk : Kid tx h k) (f d : Nat) (rest : List Tok) (hN : (kB tx h k ++ rest).length < f) (hd : d ≤ 32) (hD : dB h k (d : Int) ≤ 32) (hF : Fin 1 rest) : expr f false d (kB tx h k ++ rest) = some (.ok (h, k) rest) := by
  obtain ⟨f, rfl⟩ : ∃ g, f = g + 1 := ⟨f - 1, by omega⟩
  have hl := level_r h
  have hA : kA tx h k ((6 - 5 : Nat) : Int) = kB tx h k := by
    unfold kA kPar
    rw [if_neg (by simp; omega)]
  have := hk f (f + 1) d 5 rest (by omega) (by rw [hA]; omega) (by rw [hA]; omega) hd (dX_of hD (by show ¬ level h < ((6 - 5 : Nat) : Int); omega)) hF
  rw [hA] at this
  rw [expr]
  exact this
theorem fin_t (t : Tok) (r : List Tok) (lv : Nat) (h1 : t.x ≠ [46]) (h2 : t.x ≠ [40]) (h3 : (opOf t.x).2 < lv) : Fin lv (t :: r) := ⟨t, r, rfl, h1, h2, h3⟩
/-- A row of arguments, from the second on. -/
theorem rw_args (rn : Bs → Int) (cn : Int → Int) (p : EH) (hp : p.kind = 4 ∨ p.kind = 5) (f d : Nat) (hd : d + 1 ≤ 32) (rest : List Tok) : ∀ (r acc : Exs) (g : Nat) (a' : Int), errL rn cn r = 0 → NnX r → (∀ h k, RX rn cn h k → 0 ≤ h.vb → NnX k → k.size < r.size → Kid tx h k) → acc.len + r.len ≤ 8 → 1 ≤ acc.len → (kK tx p false r ++ tM [41] :: rest).length ≤ f → (kK tx p false r ++ tM [41] :: rest).length ≤ g → dK p r false (d : Int) a' ≤ 32 →
    rwE (expr f) (d + 1) g acc (kK tx p false r ++ tM [41] :: rest) = some (.ok (acc.app r) (tM [41] :: rest)) := by
  intro r
  induction r with
  | nil =>
    intro acc g a' _ _ _ _ _ _ hg _
    simp only [kK, List.nil_append] at hg ⊢
    obtain ⟨g, rfl⟩ : ∃ x, g = x + 1 := ⟨g - 1, by simp only [List.length_cons] at hg; omega⟩
    rw [rwE, if_neg (by decide), Exs.app_nil]
  | cons h k r _ ih =>
    intro acc g a' hL hN hK hlen hacc hf hg hD
    obtain ⟨hRx, hLr⟩ := RX_kid hL
    have hl := level_r h
    have kL : ∀ b, kidL p b = 1 := by intro b; unfold kidL; rcases hp with e | e <;> simp [e]
    have kS : kSe p = [tM [44]] := by unfold kSe; rcases hp with e | e <;> simp [e]
    have kD : kidD p = 1 := by unfold kidD; rcases hp with e | e <;> simp [e]
    have hT : kK tx p false (.cons h k r) ++ tM [41] :: rest = tM [44] :: (kB tx h k ++ (kK tx p false r ++ tM [41] :: rest)) := by
      rw [kK, kL, kS, if_neg (by simp), kPar, if_neg (by simp; omega)]
      simp [kB]
    rw [hT] at hf hg ⊢
    obtain ⟨g, rfl⟩ : ∃ x, g = x + 1 := ⟨g - 1, by simp only [List.length_cons] at hg; omega⟩
    obtain ⟨d1, d2, a2, d3⟩ := dK_cons (by omega) (by omega) hD
    rw [kL, kD] at d2
    have hF : Fin 1 (kK tx p false r ++ tM [41] :: rest) := by
      cases r with
      | nil => simp only [kK, List.nil_append]; exact fin_t _ _ _ (by decide) (by decide) (by decide)
      | cons h' k' r' => rw [kK, kS, if_neg (by simp)]; simp only [List.cons_append, List.append_assoc]; exact fin_t _ _ _ (by decide) (by decide) (by decide)
    simp only [List.length_cons, Exs.len] at hf hg hlen
    rw [rwE, if_pos (by rfl), show (acc.len == 8) = false by simp; omega, expr_kid (hK h k hRx hN.1 hN.2.1 (by simp only [Exs.size]; omega)) f (d + 1) _ (by omega) hd (dX_no d2 (by omega)) hF, bd_ok]
    rw [ih (acc.app (.cons h k .nil)) g a2 hLr hN.2.2 (fun h k r1 r2 r3 hs => hK h k r1 r2 r3 (by simp only [Exs.size]; omega)) (by rw [Exs.app_len]; simp only [Exs.len]; omega) (by rw [Exs.app_len]; omega) (by simp only [List.length_append] at hf ⊢; omega) (by simp only [List.length_append] at hg ⊢; omega) d3]
    rw [Exs.app_assoc]
    rfl
end
end Pz
end Go.Proofs.YtpkaekokkhecmaaGreatDoor
