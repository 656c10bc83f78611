/- Plain: statements' tokens are read as those statements (2). -/
import Derived.Test.YteijjaabngkbjaaGreatDoorPsJ
namespace Go.Proofs.YteijjaabngkbjaaGreatDoor
set_option linter.unusedSimpArgs false
set_option linter.unusedVariables false
namespace Pz
open Lx Te

theorem must_y {s : Bs} {t : Tok} {r : List Tok} (h : t.x = s) : must s false (t :: r) = some (.ok () r) := by rw [must, if_pos h]; rfl
theorem has_y {s : Bs} {t : Tok} {r : List Tok} (h : t.x = s) : has s false (t :: r) = some (.ok true r) := by rw [has, if_pos h]; rfl
theorem has_n {s : Bs} {t : Tok} {r : List Tok} (h : t.x ≠ s) : has s false (t :: r) = some (.ok false (t :: r)) := by rw [has, if_neg h]
theorem name_y {x : Bs} {r : List Tok} : name false (tN x :: r) = some (.ok x r) := rfl
section
variable {rn : Bs → Int} {cn : Int → Int} {tx : Int → Int → Bs} (L : Law rn cn tx)
def kOne (tx : Int → Int → Bs) (h : SH) (e : Exs) (b l : Sts) : List Tok :=
  if h.kind = 1 then tW [108, 101, 116] :: tN h.name :: tM [61] :: (kF tx e ++ [tM [59]])
  else if h.kind = 2 then tN h.name :: tM [61] :: (kF tx e ++ [tM [59]])
  else if h.kind = 3 then tW [105, 102] :: (kF tx e ++ tM [123] :: (kSt tx b ++ tM [125] :: (if 0 < l.len then tW [101, 108, 115, 101] :: tM [123] :: (kSt tx l ++ [tM [125]]) else [])))
  else if h.kind = 4 then tW [119, 104, 105, 108, 101] :: (kF tx e ++ tM [123] :: (kSt tx b ++ [tM [125]]))
  else if h.kind = 5 then tW [114, 101, 116, 117, 114, 110] :: (kF tx e ++ [tM [59]])
  else if h.kind = 6 then tW [115, 104, 111, 119] :: (kF tx e ++ [tM [59]])
  else if h.kind = 7 then tW [102, 97, 105, 108] :: (kF tx e ++ [tM [59]])
  else if h.kind = 8 then tW [116, 114, 121] :: tM [123] :: (kSt tx b ++ tM [125] :: tW [99, 97, 116, 99, 104] :: tN h.name :: tM [123] :: (kSt tx l ++ [tM [125]]))
  else kF tx e ++ [tM [59]]
theorem kSt_cons (h : SH) (e : Exs) (b l r : Sts) : kSt tx (.cons h e b l r) = kOne tx h e b l ++ kSt tx r := by rw [kSt]; rfl
theorem ended_ok (kind : Int) (n : Bs) (e : Exs) (rest : List Tok) : ended kind n e (tM [59] :: rest) = some (.ok (⟨kind, n⟩, e, .nil, .nil) rest) := by
  rw [ended, must_y (by rfl), bd_ok]
include L
omit L in
theorem dgt_59 {c : UInt8} (h : dgt c = true) : c ≠ 59 := by rintro rfl; revert h; decide
theorem nm_59 {x : Bs} (h : rn x = 0) : x ≠ [59] := by
  obtain ⟨c, r, rfl, hc⟩ := L.nm x h
  intro e; cases e; revert hc; decide
theorem head_59 : ∀ (n : Nat) (h : EH) (k : Exs), k.size < n → RX rn cn h k → 0 ≤ h.vb → NnX k → ∃ t r, kB tx h k = t :: r ∧ t.x ≠ [59] := by
  intro n
  induction n with
  | zero => intro h k hn; omega
  | succ n ih =>
    intro h k hs hR h0 hN
    obtain ⟨hfit, hnm, _, hL⟩ := fits_of L hR
    have hK : h.kind = 1 ∨ h.kind = 2 ∨ h.kind = 3 ∨ h.kind = 4 ∨ h.kind = 5 ∨ h.kind = 6 ∨ h.kind = 7 ∨ h.kind = 8 := by
      unfold fitsE at hfit
      repeat' split at hfit
      all_goals first | omega | cases hfit
    rcases hK with e | e | e | e | e | e | e | e
    · refine ⟨tL tx h.vt h.vb, kK tx h true k ++ kPo h, by simp [kB, kP, e], ?_⟩
      unfold tL
      have hl : litOk cn h.vt h.vb = true := by simp [fitsE, e] at hfit; exact hfit.1
      by_cases v1 : h.vt = 1
      · rw [if_pos v1]
        obtain ⟨c, r, e', hc⟩ := L.int h.vb h0
        simp only; rw [e']; intro x; cases x; exact dgt_59 hc rfl
      · rw [if_neg v1]
        by_cases v2 : h.vt = 2
        · rw [if_pos v2]
          by_cases e1 : h.vb = 9218868437227405312
          · rw [if_pos e1]; decide
          · rw [if_neg e1]
            by_cases e2 : h.vb = 9221120237041090561
            · rw [if_pos e2]; decide
            · rw [if_neg e2]
              obtain ⟨c, r, e', hc⟩ := L.flo h.vb h0 (v2 ▸ hl) e1 e2
              simp only; rw [e']; intro x; cases x; exact dgt_59 hc rfl
        · rw [if_neg v2]
          split <;> decide
    · exact ⟨tN h.name, kK tx h true k ++ kPo h, by simp [kB, kP, e], nm_59 L (show rn h.name = 0 by simpa [nameE, e] using hnm)⟩
    · have hm : orE (rn h.mod) (rn h.name) = 0 := by simpa [nameE, e] using hnm
      exact ⟨tN h.mod, [tM [46], tN h.name] ++ kK tx h true k ++ kPo h, by simp [kB, kP, e], nm_59 L (orE_0 hm).1⟩
    · exact ⟨tN h.name, [tM [40]] ++ kK tx h true k ++ kPo h, by simp [kB, kP, e], nm_59 L (show rn h.name = 0 by simpa [nameE, e] using hnm)⟩
    · have hm : orE (rn h.mod) (rn h.name) = 0 := by simpa [nameE, e] using hnm
      exact ⟨tN h.mod, [tM [46], tN h.name, tM [40]] ++ kK tx h true k ++ kPo h, by simp [kB, kP, e], nm_59 L (orE_0 hm).1⟩
    · by_cases o1 : h.op = 1
      · exact ⟨tM [45], kK tx h true k ++ kPo h, by simp [kB, kP, e, o1], by decide⟩
      · by_cases o2 : h.op = 2
        · exact ⟨tM [33], kK tx h true k ++ kPo h, by simp [kB, kP, e, o2], by decide⟩
        · by_cases o3 : h.op = 3
          · exact ⟨tW [105, 110, 116], tM [40] :: (kK tx h true k ++ kPo h), by simp [kB, kP, e, o3], by decide⟩
          · exact ⟨tW [102, 108, 111, 97, 116], tM [40] :: (kK tx h true k ++ kPo h), by simp [kB, kP, e, o1, o2, o3], by decide⟩
    · have h2 : k.len = 2 := by simp [fitsE, e] at hfit; exact hfit.2.2.1
      cases k with
      | nil => simp [Exs.len] at h2
      | cons x kx r =>
        obtain ⟨hRx, _⟩ := RX_kid hL
        obtain ⟨t, r', e', ht⟩ := ih x kx (by simp only [Exs.size] at hs; omega) hRx hN.1 hN.2.1
        by_cases hp : level x < kidL h true
        · refine ⟨tM [40], (kB tx x kx ++ [tM [41]]) ++ kK tx h false r ++ kPo h, ?_, by decide⟩
          simp [kB, kP, e, kK, kPar, hp]
        · refine ⟨t, r' ++ kK tx h false r ++ kPo h, ?_, ht⟩
          have : kB tx h (.cons x kx r) = kB tx x kx ++ (kK tx h false r ++ kPo h) := by simp [kB, kP, e, kK, kPar, hp]
          rw [this, e']
          simp
    · exact ⟨tW [105, 110, 112, 117, 116], kK tx h true k ++ kPo h, by simp [kB, kP, e], by decide⟩
/-- A call that stands alone. -/
theorem alone (x : EH) (k : Exs) (hR : RX rn cn x k) (hN : NnX k) (hk : x.kind = 4 ∨ x.kind = 5) (g d : Nat) (rest : List Tok) (hg : (kB tx x k ++ tM [59] :: rest).length < g) (hd : d ≤ 32) (hD : dX x k 1 (d : Int) ≤ 32) :
    named (E0 g) (C0 g) d (kB tx x k ++ tM [59] :: rest) = some (.ok (⟨9, []⟩, .cons x k .nil, .nil, .nil) rest) ∧ ∃ n r, kB tx x k = tN n :: r ∧ rn n = 0 := by
  obtain ⟨hfit, hnm, hlen, hL⟩ := fits_of L hR
  have hD2 : dB x k (d : Int) ≤ 32 := dX_no hD (by have := level_r x; omega)
  have IH : ∀ h' k', RX rn cn h' k' → 0 ≤ h'.vb → NnX k' → k'.size < k.size → Kid tx h' k' := fun h' k' a b c _ => (kids L (k'.size + 1) h' k' (by omega) a b c).1
  have hA := args_ok L x hk k hlen hL hN IH g g d hd _ hD2 (tM [59] :: rest)
  obtain ⟨kind, op, mod, name, vt, vb⟩ := x
  rcases hk with hk | hk
  · simp only at hk
    subst hk
    simp [fitsE] at hfit
    obtain ⟨rfl, rfl, rfl, rfl⟩ := hfit
    have hn : rn name = 0 := by simpa [nameE] using hnm
    have hT : kB tx ⟨4, 0, [], name, 0, 0⟩ k ++ tM [59] :: rest = tN name :: tM [40] :: (kK tx ⟨4, 0, [], name, 0, 0⟩ true k ++ tM [41] :: tM [59] :: rest) := by simp [kB, kP, kPo]
    rw [hT] at hg ⊢
    simp only [List.length_cons] at hg hA
    refine ⟨?_, name, tM [40] :: (kK tx ⟨4, 0, [], name, 0, 0⟩ true k ++ [tM [41]]), by simp [kB, kP, kPo], hn⟩
    rw [named, refr, name_y, bd_ok, has_n (by decide), bd_ok]
    simp only [Bool.false_eq_true, if_false, bd_ok]
    rw [if_neg (by simp [tM]), C0, call, hA (by omega) (by omega), bd_ok, bd_ok, ended_ok]
    rfl
  · simp only at hk
    subst hk
    simp [fitsE] at hfit
    obtain ⟨rfl, rfl, rfl⟩ := hfit
    have hm : orE (rn mod) (rn name) = 0 := by simpa [nameE] using hnm
    have hT : kB tx ⟨5, 0, mod, name, 0, 0⟩ k ++ tM [59] :: rest = tN mod :: tM [46] :: tN name :: tM [40] :: (kK tx ⟨5, 0, mod, name, 0, 0⟩ true k ++ tM [41] :: tM [59] :: rest) := by simp [kB, kP, kPo]
    rw [hT] at hg ⊢
    simp only [List.length_cons] at hg hA
    refine ⟨?_, mod, tM [46] :: tN name :: tM [40] :: (kK tx ⟨5, 0, mod, name, 0, 0⟩ true k ++ [tM [41]]), by simp [kB, kP, kPo], (orE_0 hm).1⟩
    rw [named, refr, name_y, bd_ok, has_y (by rfl), bd_ok]
    simp only [if_true, bd_ok]
    rw [name_y, bd_ok]
    simp only [bd_ok]
    rw [if_neg (by simp), C0, call, hA (by omega) (by omega), bd_ok, bd_ok, ended_ok]
    rfl
/-- One statement. -/
theorem stm_back (h : SH) (e : Exs) (b l : Sts) (g d : Nat) (B : Nat → List Tok → Ou Sts) (t : Tok) (rest : List Tok) (ht : t.x ≠ [101, 108, 115, 101])
    (hH : errSH rn h e b.len l.len = 0) (hE : errL rn cn e = 0) (hN : NnX e) (hd : d ≤ 32) (hD : dL e (d : Int) (d : Int) ≤ 32)
    (hg : (kOne tx h e b l ++ t :: rest).length < g)
    (HB : hasBody h.kind = true → ∀ r, (tM [123] :: (kSt tx b ++ tM [125] :: r)).length < g → B d (tM [123] :: (kSt tx b ++ tM [125] :: r)) = some (.ok b r))
    (HL : h.kind = 8 ∨ 0 < l.len → ∀ r, (tM [123] :: (kSt tx l ++ tM [125] :: r)).length < g → B d (tM [123] :: (kSt tx l ++ tM [125] :: r)) = some (.ok l r)) :
    stm (E0 g) (C0 g) B d (kOne tx h e b l ++ t :: rest) = some (.ok (h, e, b, l) (t :: rest)) ∧ ∃ u r, kOne tx h e b l = u :: r ∧ ((∃ n, u = tN n ∧ rn n = 0) ∨ (u.x ≠ [101, 108, 115, 101] ∧ u.x ≠ [125])) := by
  unfold errSH at hH
  obtain ⟨hfit, hnm⟩ := orE_0 hH
  have hfit : fitsS h e b.len l.len = true := by
    by_cases e' : fitsS h e b.len l.len = true
    · exact e'
    · rw [if_neg e'] at hfit; omega
  obtain ⟨kind, nm⟩ := h
  have hK : kind = 1 ∨ kind = 2 ∨ kind = 3 ∨ kind = 4 ∨ kind = 5 ∨ kind = 6 ∨ kind = 7 ∨ kind = 8 ∨ kind = 9 := by
    unfold fitsS at hfit
    simp only at hfit
    repeat' split at hfit
    all_goals first | omega | cases hfit
  rcases hK with rfl | rfl | rfl | rfl | rfl | rfl | rfl | rfl | rfl
  · simp [fitsS] at hfit
    obtain ⟨h1, h2, h3⟩ := hfit
    obtain ⟨x, k, rfl⟩ := one_of h1
    obtain rfl := len0S h2
    obtain rfl := len0S h3
    refine ⟨?_, _, _, rfl, Or.inr ⟨by decide, by decide⟩⟩
    have hT : kOne tx ⟨1, nm⟩ (.cons x k .nil) .nil .nil ++ t :: rest = tW [108, 101, 116] :: tN nm :: tM [61] :: (kF tx (.cons x k .nil) ++ tM [59] :: t :: rest) := by simp [kOne]
    rw [hT] at hg ⊢
    simp only [List.length_cons] at hg
    rw [stm, if_neg (by simp [tW]), if_pos (by rfl), name_y, bd_ok, asg, must_y (by rfl), bd_ok, lone_back L x k hE hN g d _ _ (Or.inl rfl) (by omega) hd (lone_dep hD), bd_ok, ended_ok]
  · simp [fitsS] at hfit
    obtain ⟨h1, h2, h3⟩ := hfit
    obtain ⟨x, k, rfl⟩ := one_of h1
    obtain rfl := len0S h2
    obtain rfl := len0S h3
    have hn : rn nm = 0 := by simpa [nameS] using hnm
    refine ⟨?_, _, _, rfl, Or.inl ⟨nm, rfl, hn⟩⟩
    have hT : kOne tx ⟨2, nm⟩ (.cons x k .nil) .nil .nil ++ t :: rest = tN nm :: tM [61] :: (kF tx (.cons x k .nil) ++ tM [59] :: t :: rest) := by simp [kOne]
    rw [hT] at hg ⊢
    simp only [List.length_cons] at hg
    rw [stm, if_pos (by rfl), named, refr, name_y, bd_ok, has_n (by decide), bd_ok]
    simp only [Bool.false_eq_true, if_false, bd_ok]
    rw [if_pos ⟨trivial, by rfl⟩, asg, must_y (by rfl), bd_ok, lone_back L x k hE hN g d _ _ (Or.inl rfl) (by omega) hd (lone_dep hD), bd_ok, ended_ok]
  · simp [fitsS] at hfit
    obtain ⟨h1, rfl⟩ := hfit
    obtain ⟨x, k, rfl⟩ := one_of h1
    refine ⟨?_, _, _, rfl, Or.inr ⟨by decide, by decide⟩⟩
    by_cases hl : 0 < l.len
    · have hT : kOne tx ⟨3, []⟩ (.cons x k .nil) b l ++ t :: rest = tW [105, 102] :: (kF tx (.cons x k .nil) ++ tM [123] :: (kSt tx b ++ tM [125] :: tW [101, 108, 115, 101] :: tM [123] :: (kSt tx l ++ tM [125] :: t :: rest))) := by simp [kOne, hl]
      rw [hT] at hg ⊢
      simp only [List.length_cons, List.length_append] at hg HB HL
      rw [stm, if_neg (by simp [tW]), if_neg (by decide), if_pos (by rfl), branch, lone_back L x k hE hN g d _ _ (Or.inr rfl) (by simp only [List.length_cons, List.length_append]; omega) hd (lone_dep hD), bd_ok, HB rfl _ (by simp only [List.length_cons, List.length_append]; omega), bd_ok, has_y (by rfl), bd_ok, if_pos (by rfl), HL (Or.inr hl) _ (by simp only [List.length_cons, List.length_append]; omega), bd_ok]
    · obtain rfl := len0S (Nat.eq_zero_of_not_pos hl)
      have hT : kOne tx ⟨3, []⟩ (.cons x k .nil) b .nil ++ t :: rest = tW [105, 102] :: (kF tx (.cons x k .nil) ++ tM [123] :: (kSt tx b ++ tM [125] :: t :: rest)) := by simp [kOne, hl]
      rw [hT] at hg ⊢
      simp only [List.length_cons, List.length_append] at hg HB
      rw [stm, if_neg (by simp [tW]), if_neg (by decide), if_pos (by rfl), branch, lone_back L x k hE hN g d _ _ (Or.inr rfl) (by simp only [List.length_cons, List.length_append]; omega) hd (lone_dep hD), bd_ok, HB rfl _ (by simp only [List.length_cons, List.length_append]; omega), bd_ok, has_n ht, bd_ok]
      rfl
  · simp [fitsS] at hfit
    obtain ⟨h1, rfl, h3⟩ := hfit
    obtain ⟨x, k, rfl⟩ := one_of h1
    obtain rfl := len0S h3
    refine ⟨?_, _, _, rfl, Or.inr ⟨by decide, by decide⟩⟩
    have hT : kOne tx ⟨4, []⟩ (.cons x k .nil) b .nil ++ t :: rest = tW [119, 104, 105, 108, 101] :: (kF tx (.cons x k .nil) ++ tM [123] :: (kSt tx b ++ tM [125] :: t :: rest)) := by simp [kOne]
    rw [hT] at hg ⊢
    simp only [List.length_cons, List.length_append] at hg HB
    rw [stm, if_neg (by simp [tW]), if_neg (by decide), if_neg (by decide), if_pos (by rfl), while_, lone_back L x k hE hN g d _ _ (Or.inr rfl) (by simp only [List.length_cons, List.length_append]; omega) hd (lone_dep hD), bd_ok, HB rfl _ (by simp only [List.length_cons, List.length_append]; omega), bd_ok]
  · simp [fitsS] at hfit
    obtain ⟨h1, rfl, h2, h3⟩ := hfit
    obtain rfl := len0S h2
    obtain rfl := len0S h3
    refine ⟨?_, _, _, rfl, Or.inr ⟨by decide, by decide⟩⟩
    have hT : kOne tx ⟨5, []⟩ e .nil .nil ++ t :: rest = tW [114, 101, 116, 117, 114, 110] :: (kF tx e ++ tM [59] :: t :: rest) := by simp [kOne]
    rw [hT] at hg ⊢
    simp only [List.length_cons] at hg
    rw [stm, if_neg (by simp [tW]), if_neg (by decide), if_neg (by decide), if_neg (by decide), if_pos (by rfl)]
    cases e with
    | nil =>
      simp only [kF, List.nil_append]
      rw [returned, if_pos (by rfl), ended_ok]
    | cons x k r =>
      obtain ⟨_, _, e1⟩ := one_of (e := .cons x k r) (by simp [Exs.len] at h1 ⊢; omega)
      cases e1
      obtain ⟨u, r', e2, hu⟩ := head_59 L _ x k (Nat.lt_succ_self _) (RX_kid hE).1 hN.1 hN.2.1
      have hb := lone_back L x k hE hN g d _ (t :: rest) (Or.inl (show (tM [59]).x = [59] from rfl)) (by omega) hd (lone_dep hD)
      rw [kF, e2, List.cons_append] at hb ⊢
      rw [returned, if_neg hu, hb, bd_ok, ended_ok]
  · simp [fitsS] at hfit
    obtain ⟨h1, rfl, h2, h3⟩ := hfit
    obtain ⟨x, k, rfl⟩ := one_of h1
    obtain rfl := len0S h2
    obtain rfl := len0S h3
    refine ⟨?_, _, _, rfl, Or.inr ⟨by decide, by decide⟩⟩
    have hT : kOne tx ⟨6, []⟩ (.cons x k .nil) .nil .nil ++ t :: rest = tW [115, 104, 111, 119] :: (kF tx (.cons x k .nil) ++ tM [59] :: t :: rest) := by simp [kOne]
    rw [hT] at hg ⊢
    simp only [List.length_cons] at hg
    rw [stm, if_neg (by simp [tW]), if_neg (by decide), if_neg (by decide), if_neg (by decide), if_neg (by decide), if_pos (by rfl), lone_back L x k hE hN g d _ _ (Or.inl rfl) (by omega) hd (lone_dep hD), bd_ok, ended_ok]
  · simp [fitsS] at hfit
    obtain ⟨h1, rfl, h2, h3⟩ := hfit
    obtain ⟨x, k, rfl⟩ := one_of h1
    obtain rfl := len0S h2
    obtain rfl := len0S h3
    refine ⟨?_, _, _, rfl, Or.inr ⟨by decide, by decide⟩⟩
    have hT : kOne tx ⟨7, []⟩ (.cons x k .nil) .nil .nil ++ t :: rest = tW [102, 97, 105, 108] :: (kF tx (.cons x k .nil) ++ tM [59] :: t :: rest) := by simp [kOne]
    rw [hT] at hg ⊢
    simp only [List.length_cons] at hg
    rw [stm, if_neg (by simp [tW]), if_neg (by decide), if_neg (by decide), if_neg (by decide), if_neg (by decide), if_neg (by decide), if_pos (by rfl), lone_back L x k hE hN g d _ _ (Or.inl rfl) (by omega) hd (lone_dep hD), bd_ok, ended_ok]
  · simp [fitsS] at hfit
    obtain rfl := len0 hfit
    refine ⟨?_, _, _, rfl, Or.inr ⟨by decide, by decide⟩⟩
    have hT : kOne tx ⟨8, nm⟩ .nil b l ++ t :: rest = tW [116, 114, 121] :: tM [123] :: (kSt tx b ++ tM [125] :: tW [99, 97, 116, 99, 104] :: tN nm :: tM [123] :: (kSt tx l ++ tM [125] :: t :: rest)) := by simp [kOne]
    rw [hT] at hg ⊢
    simp only [List.length_cons, List.length_append] at hg HB HL
    rw [stm, if_neg (by simp [tW]), if_neg (by decide), if_neg (by decide), if_neg (by decide), if_neg (by decide), if_neg (by decide), if_neg (by decide), if_pos (by rfl), tried, HB rfl _ (by simp only [List.length_cons, List.length_append]; omega), bd_ok, must_y (by rfl), bd_ok, name_y, bd_ok, HL (Or.inl (by trivial)) _ (by first | omega | (simp only [List.length_cons, List.length_append]; omega)), bd_ok]
  · simp [fitsS] at hfit
    obtain ⟨h1, hk, rfl, h2, h3⟩ := hfit
    obtain ⟨x, k, rfl⟩ := one_of h1
    obtain rfl := len0S h2
    obtain rfl := len0S h3
    have hT : kOne tx ⟨9, []⟩ (.cons x k .nil) .nil .nil ++ t :: rest = kB tx x k ++ tM [59] :: t :: rest := by simp [kOne, kF]
    rw [hT] at hg ⊢
    obtain ⟨ha, n, r', e1, hn⟩ := alone L x k (RX_kid hE).1 hN.2.1 hk g d (t :: rest) hg hd (lone_dep hD)
    refine ⟨?_, tN n, r' ++ [tM [59]], by simp [kOne, kF, e1], Or.inl ⟨n, rfl, hn⟩⟩
    rw [e1, List.cons_append] at ha ⊢
    rw [stm, if_pos (by rfl), ha]
/-- How a statement begins. -/
theorem one_head (h : SH) (e : Exs) (b l : Sts) (hH : errSH rn h e b.len l.len = 0) (hE : errL rn cn e = 0) (hN : NnX e) : ∃ u r, kOne tx h e b l = u :: r ∧ ((∃ n, u = tN n ∧ rn n = 0) ∨ (u.x ≠ [101, 108, 115, 101] ∧ u.x ≠ [125])) := by
  unfold errSH at hH
  obtain ⟨hfit, hnm⟩ := orE_0 hH
  have hfit : fitsS h e b.len l.len = true := by
    by_cases e' : fitsS h e b.len l.len = true
    · exact e'
    · rw [if_neg e'] at hfit; omega
  obtain ⟨kind, nm⟩ := h
  have hK : kind = 1 ∨ kind = 2 ∨ kind = 3 ∨ kind = 4 ∨ kind = 5 ∨ kind = 6 ∨ kind = 7 ∨ kind = 8 ∨ kind = 9 := by
    unfold fitsS at hfit
    simp only at hfit
    repeat' split at hfit
    all_goals first | omega | cases hfit
  rcases hK with rfl | rfl | rfl | rfl | rfl | rfl | rfl | rfl | rfl
  · exact ⟨_, _, rfl, Or.inr ⟨by decide, by decide⟩⟩
  · exact ⟨_, _, rfl, Or.inl ⟨nm, rfl, by simpa [nameS] using hnm⟩⟩
  · exact ⟨_, _, rfl, Or.inr ⟨by decide, by decide⟩⟩
  · exact ⟨_, _, rfl, Or.inr ⟨by decide, by decide⟩⟩
  · exact ⟨_, _, rfl, Or.inr ⟨by decide, by decide⟩⟩
  · exact ⟨_, _, rfl, Or.inr ⟨by decide, by decide⟩⟩
  · exact ⟨_, _, rfl, Or.inr ⟨by decide, by decide⟩⟩
  · exact ⟨_, _, rfl, Or.inr ⟨by decide, by decide⟩⟩
  · simp [fitsS] at hfit
    obtain ⟨h1, hk, _⟩ := hfit
    obtain ⟨x, k, rfl⟩ := one_of h1
    obtain ⟨hf, hm, _, _⟩ := fits_of L (RX_kid hE).1
    simp only [Exs.kind0] at hk
    rcases hk with hk | hk
    · exact ⟨tN x.name, [tM [40]] ++ kK tx x true k ++ kPo x ++ [tM [59]], by simp [kOne, kF, kB, kP, hk], Or.inl ⟨_, rfl, by simpa [nameE, hk] using hm⟩⟩
    · have hm : orE (rn x.mod) (rn x.name) = 0 := by simpa [nameE, hk] using hm
      exact ⟨tN x.mod, [tM [46], tN x.name, tM [40]] ++ kK tx x true k ++ kPo x ++ [tM [59]], by simp [kOne, kF, kB, kP, hk], Or.inl ⟨_, rfl, (orE_0 hm).1⟩⟩
omit L in
/-- Blocks are shorter. -/
theorem one_len (h : SH) (e : Exs) (b l : Sts) : (hasBody h.kind = true → (kSt tx b).length < (kOne tx h e b l).length) ∧ (h.kind = 8 ∨ 0 < l.len → errSH rn h e b.len l.len = 0 → (kSt tx l).length < (kOne tx h e b l).length) := by
  refine ⟨?_, ?_⟩
  · intro hB
    have : h.kind = 3 ∨ h.kind = 4 ∨ h.kind = 8 := by simpa [hasBody, or_assoc] using hB
    unfold kOne
    rcases this with e' | e' | e' <;> rw [e'] <;> simp <;> omega
  · intro hL hH
    unfold errSH at hH
    obtain ⟨hfit, hnm⟩ := orE_0 hH
    have hfit : fitsS h e b.len l.len = true := by
      by_cases e' : fitsS h e b.len l.len = true
      · exact e'
      · rw [if_neg e'] at hfit; omega
    have : h.kind = 8 ∨ (h.kind = 3 ∧ 0 < l.len) := by
      rcases hL with hL | hL
      · exact Or.inl hL
      · unfold fitsS at hfit
        repeat' split at hfit
        all_goals first | (right; exact ⟨by assumption, hL⟩) | (left; assumption) | (exfalso; simp at hfit; done) | (exfalso; simp at hfit; omega)
    unfold kOne
    rcases this with e' | ⟨e', hl⟩ <;> rw [e'] <;> simp [*] <;> omega
end
end Pz
end Go.Proofs.YteijjaabngkbjaaGreatDoor
