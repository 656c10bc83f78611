/- What the document's read must answer: plain facts. -/
import Derived.Test.YtfegnjpajflnkaaDoorDigit
namespace Go.Proofs.YtfegnjpajflnkaaDoor
open Go.RowKit Fl
set_option linter.unusedSimpArgs false
set_option linter.unusedVariables false

/-- The text of a size that is no nought, no infinity and no NaN. -/
structure Form (t : List UInt8) (F : Nat) (E : Int) : Prop where
  txt : t = [48, 120, 49] ++ (fracL F ++ 112 :: expL E)
  hF : F < 4503599627370496
  h0 : -1074 ≤ E
  h1 : E ≤ 1023
  sub : E < -1022 → (4503599627370496 + F) % 2 ^ (-1022 - E).toNat = 0

def signV (n : Bool) : Int := if n then 9223372036854775808 else 0
/-- An answer that is right wherever the text is one of Text's. -/
def Good (s : List UInt8) (v : Int) : Prop := U v ∧ ∀ a, U a → textS a = s → v = canonS a

theorem good_special (s : List UInt8) (v : Int) (h : parseS s = (v, 0)) (hu : U v) : Good s v := by
  refine ⟨hu, fun a ha e => ?_⟩
  have := parse_text a ha
  rw [e, h] at this
  exact congrArg Prod.fst this

theorem form_of (a : Int) (ha : U a) (h : classS a = 4 ∨ classS a = 5) :
    ∃ F E, Form (sizeL (classS a) (partM a).toNat (partE a)) F E ∧ (joinS F E : Int) = a % 9223372036854775808 := by
  obtain ⟨j1, j2, j3⟩ := join_back a ha h
  have hF : nrm (partM a).toNat % 4503599627370496 < 4503599627370496 := Nat.mod_lt _ (by decide)
  refine ⟨_, _, ⟨sizeL_great a h, hF, j1, j2, ?_⟩, j3⟩
  intro hE
  rcases class_parts a ha with e | e | e | ⟨_, m1, m2, e1, e2⟩
  · omega
  · omega
  · omega
  obtain ⟨b1, b2, b3, b4⟩ := nrm_bounds (partM a).toNat (by omega) (by omega)
  rw [show 4503599627370496 + nrm (partM a).toNat % 4503599627370496 = nrm (partM a).toNat by omega]
  have hk : (-1022 - (partE a - (shf (partM a).toNat : Int) + 52)).toNat ≤ shf (partM a).toNat := by omega
  generalize (-1022 - (partE a - (shf (partM a).toNat : Int) + 52)).toNat = k at *
  unfold nrm
  exact Nat.mod_eq_zero_of_dvd (Nat.dvd_trans (Nat.pow_dvd_pow 2 hk) (Nat.dvd_mul_left _ _))

theorem text_key (a : Int) : Lib.trimPrefix (textS a) [45] = sizeL (classS a) (partM a).toNat (partE a) ∧ Lib.hasPrefix (textS a) [45] = partN a := by
  have hne : Lib.hasPrefix (sizeL (classS a) (partM a).toNat (partE a)) [45] = false := by
    unfold sizeL Lib.hasPrefix
    repeat' split
    all_goals first | rfl | simp
  unfold textS
  cases partN a
  · simp only [Bool.false_eq_true, if_false, List.nil_append]
    exact ⟨by unfold Lib.trimPrefix; rw [hne]; simp, hne⟩
  · simp [Lib.trimPrefix, Lib.hasPrefix]

theorem text_form (s t : List UInt8) (n : Bool) (h1 : (s == [110, 97, 110]) = false) (h2 : (s == [105, 110, 102]) = false) (h3 : (s == [45, 105, 110, 102]) = false) (h4 : (s == [45, 48, 120, 48, 112, 43, 48]) = false)
    (hn : Lib.hasPrefix s [45] = n) (ht : Lib.trimPrefix s [45] = t) (a : Int) (ha : U a) (hs : textS a = s) :
    (canonS a = 0 ∧ t = [48, 120, 48, 112, 43, 48]) ∨ ∃ F E, Form t F E ∧ canonS a = signV n + joinS F E := by
  obtain ⟨k1, k2⟩ := text_key a
  rw [hs, ht] at k1
  rw [hs, hn] at k2
  have hcn := class_nan a
  obtain ⟨h0, hU⟩ := ha
  have ts : s = (if n then [45] else []) ++ t := by rw [← hs, k1, k2]; rfl
  rcases class_cases a with e | e | e | e | e
  · rw [e] at k1
    have hp : partN a = false := by simp [partN, e]
    rw [hp] at k2
    subst k2
    rw [ts, k1] at h1
    cases h1
  · rw [e] at k1
    rw [ts, k1] at h2 h3
    cases n
    · cases h2
    · cases h3
  · rw [e] at k1
    rw [ts, k1] at h4
    cases n
    · left
      have hnn : nan a = false := by cases h : nan a <;> simp_all
      have hp : partN a = decide (9223372036854775808 ≤ a) := by simp [partN, e]
      rw [hp] at k2
      have hlt := of_decide_eq_false k2.symm
      have hr : a % 9223372036854775808 = 0 := by
        unfold classS at e
        revert e
        repeat' split
        all_goals omega
      exact ⟨by rw [canon_self a hnn]; omega, k1⟩
    · cases h4
  all_goals
    right
    have hnn : nan a = false := by cases h : nan a <;> simp_all
    have hp : partN a = decide (9223372036854775808 ≤ a) := by simp [partN, e]
    obtain ⟨F, E, f1, f2⟩ := form_of a ⟨h0, hU⟩ (by omega)
    refine ⟨F, E, by rw [k1]; exact f1, ?_⟩
    rw [canon_self a hnn, f2, k2, hp]
    unfold signV
    by_cases c : 9223372036854775808 ≤ a
    · rw [decide_eq_true c]; simp only [if_true]; omega
    · rw [decide_eq_false c]; simp only [Bool.false_eq_true, if_false]; omega

theorem form_head {t : List UInt8} {F : Nat} {E : Int} (h : Form t F E) : t.take 3 = [48, 120, 49] := by rw [h.txt]; rfl

def scanH : Nat → List UInt8 → Nat → Nat × List UInt8
  | 0, r, acc => (acc, r)
  | _ + 1, [], acc => (acc, [])
  | k + 1, c :: r, acc => if hix c < 0 then (acc, c :: r) else scanH k r (acc * 16 + (hix c).toNat)
def fracS (t : List UInt8) : Nat × List UInt8 :=
  if t[3]? = some 46 then ((scanH 13 (t.drop 4) 0).1 * 16 ^ (13 - ((t.drop 4).length - (scanH 13 (t.drop 4) 0).2.length)), (scanH 13 (t.drop 4) 0).2) else (0, t.drop 3)

theorem scan_fold (c : UInt8) (R : List UInt8) (hc : hix c < 0) (ds : List UInt8) : ∀ (k acc x : Nat), ds.length ≤ k → foldHex ds acc = some x → scanH k (ds ++ c :: R) acc = (x, c :: R) := by
  induction ds with
  | nil =>
    intro k acc x _ h
    cases h
    cases k with
    | zero => rfl
    | succ k => simp [scanH, hc]
  | cons d ds ih =>
    intro k acc x hk h
    rw [List.length_cons] at hk
    rw [foldHex] at h
    cases k with
    | zero => omega
    | succ k =>
      rw [List.cons_append, scanH]
      by_cases hd : hix d < 0
      · rw [if_pos hd] at h; cases h
      · rw [if_neg hd] at h ⊢
        exact ih k _ x (by omega) h

theorem frac_form (F : Nat) (hF : F < 4503599627370496) (R : List UInt8) : fracS ([48, 120, 49] ++ (fracL F ++ 112 :: R)) = (F, 112 :: R) := by
  unfold fracL
  by_cases h : F = 0
  · subst h
    unfold fracS
    simp
  · rw [if_neg h]
    obtain ⟨i1, i2, i3⟩ := hexF_fold 13 F 0 (by omega) hF (by rw [Nat.sub_self, Nat.pow_zero, Nat.mod_one])
    have e1 := scan_fold 112 R (by decide) _ 13 0 _ i3 i1
    unfold fracS
    have e0 : ([48, 120, 49] ++ (46 :: hexF 13 F ++ 112 :: R)).drop 4 = hexF 13 F ++ 112 :: R := rfl
    have e3 : ([48, 120, 49] ++ (46 :: hexF 13 F ++ 112 :: R))[3]? = some 46 := rfl
    rw [if_pos e3, e0, e1]
    simp only [List.length_append, Nat.add_sub_cancel, Nat.zero_mul, Nat.zero_add]
    generalize (hexF 13 F).length = j at *
    congr 1
    exact Nat.div_mul_cancel (Nat.dvd_of_mod_eq_zero i2)

theorem exp_shape (E : Int) (h0 : -1074 ≤ E) (h1 : E ≤ 1023) : ∃ x ds, expL E = x :: ds ∧ 1 ≤ ds.length ∧ ds.length ≤ 4 ∧ foldDec ds 0 = some E.natAbs ∧ ((x = 45 ∧ E < 0) ∨ (x = 43 ∧ 0 ≤ E)) := by
  have hpos : ∀ m, 1 ≤ (Lib.decDigits m).length := by
    intro m
    rw [Lib.decDigits]
    split <;> simp
  unfold expL
  by_cases c : E < 0
  · rw [if_pos c]
    exact ⟨_, _, rfl, hpos _, decDigits_len4 E.natAbs (by omega), foldDec_digits _, Or.inl ⟨rfl, c⟩⟩
  · rw [if_neg c]
    exact ⟨_, _, rfl, hpos _, decDigits_len4 E.toNat (by omega), by rw [foldDec_digits]; congr 1; omega, Or.inr ⟨rfl, by omega⟩⟩

theorem form_tail {t : List UInt8} {F : Nat} {E : Int} (h : Form t F E) : ∃ x ds, fracS t = (F, 112 :: x :: ds) ∧ 1 ≤ ds.length ∧ ds.length ≤ 4 ∧ foldDec ds 0 = some E.natAbs ∧ ((x = 45 ∧ E < 0) ∨ (x = 43 ∧ 0 ≤ E)) ∧ 6 ≤ t.length ∧ t.length ≤ 40 := by
  obtain ⟨x, ds, e1, e2, e3, e4, e5⟩ := exp_shape E h.h0 h.h1
  have hl := fracL_len F
  refine ⟨x, ds, ?_, e2, e3, e4, e5, ?_, ?_⟩
  · rw [h.txt, frac_form F h.hF, e1]
  · rw [h.txt, e1]; simp; omega
  · rw [h.txt, e1]; simp; omega

/-- Where the scan ends. -/
theorem frac_exit (t : List UInt8) (acc j : Nat) (h3 : t[3]? = some 46) (hj : j + 4 ≤ t.length) (h : scanH 13 (t.drop 4) 0 = (acc, t.drop (j + 4))) : fracS t = (acc * 16 ^ (13 - j), t.drop (j + 4)) := by
  unfold fracS
  rw [if_pos h3, h]
  simp only [List.length_drop]
  rw [show t.length - 4 - (t.length - (j + 4)) = j by omega]
theorem frac_none (t : List UInt8) (h3 : ¬ t[3]? = some 46) : fracS t = (0 * 16 ^ (13 - 0), t.drop 3) := by
  unfold fracS
  rw [if_neg h3, Nat.zero_mul]

/-- Form, where the places are known. -/
theorem form_at {t : List UInt8} {F i m : Nat} {E : Int} (h : Form t F E) (hf : fracS t = (m, t.drop i)) : F = m ∧ ∃ x ds, t.drop i = 112 :: x :: ds ∧ 1 ≤ ds.length ∧ ds.length ≤ 4 ∧ foldDec ds 0 = some E.natAbs ∧ ((x = 45 ∧ E < 0) ∨ (x = 43 ∧ 0 ≤ E)) := by
  obtain ⟨x, ds, e1, e2, e3, e4, e5, _⟩ := form_tail h
  rw [hf] at e1
  exact ⟨(congrArg Prod.fst e1).symm, x, ds, congrArg Prod.snd e1, e2, e3, e4, e5⟩

theorem or_sign (n : Bool) (x : Int) (h0 : 0 ≤ x) (h1 : x < 9223372036854775808) : bits .or .u64 (signV n) x = signV n + x := by
  unfold signV
  cases n
  · simp only [Bool.false_eq_true, if_false]
    rw [u64_or _ _ (by omega) (by omega) (by omega) (by omega)]
    rw [show (0 : Int).toNat = 0 from rfl, Nat.zero_or]
    omega
  · simp only [if_true]
    rw [u64_or _ _ (by omega) (by omega) (by omega) (by omega)]
    have := nat_join 63 9223372036854775808 x.toNat (by decide) (by omega)
    rw [show (9223372036854775808 : Int).toNat = 9223372036854775808 from rfl, this]
    omega
/-- The sign, the exponent, the fraction, one after another. -/
theorem or_three (n : Bool) (e : Int) (m : Nat) (h0 : -1022 ≤ e) (h1 : e ≤ 1023) (hm : m < 4503599627370496) :
    IntKind.u64.wrap ((e + 1023) * 4503599627370496) = (e + 1023) * 4503599627370496 ∧ bits .or .u64 (signV n) ((e + 1023) * 4503599627370496) = signV n + (e + 1023) * 4503599627370496 ∧ bits .or .u64 (signV n + (e + 1023) * 4503599627370496) (m : Int) = signV n + (joinS m e : Nat) := by
  refine ⟨by rw [IntKind.wrap_u64]; omega, or_sign n _ (by omega) (by omega), ?_⟩
  have hs : signV n = 0 ∨ signV n = 9223372036854775808 := by cases n <;> simp [signV]
  rw [u64_or _ _ (by omega) (by omega) (by omega) (by omega)]
  have := nat_join 52 (signV n + (e + 1023) * 4503599627370496).toNat m (by omega) (by omega)
  rw [Int.toNat_natCast, this]
  unfold joinS
  rw [if_neg (by omega)]
  omega
theorem or_hidn (m : Nat) (hm : m < 4503599627370496) : bits .or .u64 (m : Int) 4503599627370496 = ((4503599627370496 + m : Nat) : Int) := by
  rw [u64_or _ _ (by omega) (by omega) (by omega) (by omega)]
  have := nat_join 52 4503599627370496 m (by decide) (by omega)
  rw [show (4503599627370496 : Int).toNat = 4503599627370496 from rfl, Int.toNat_natCast, Nat.or_comm, this]
/-- What is shifted out at the upper end is nothing just if the last k bits are nothing. -/
theorem lost_bits (x k : Nat) (hk : 1 ≤ k) (hk2 : k ≤ 52) : (IntKind.u64.wrap ((x : Int) * 2 ^ (64 - k)) == 0) = decide (x % 2 ^ k = 0) := by
  rw [IntKind.wrap_u64]
  have e : ((x : Int) * 2 ^ (64 - k)) % 18446744073709551616 = ((x % 2 ^ k * 2 ^ (64 - k) : Nat) : Int) := by
    have h1 : (18446744073709551616 : Nat) = 2 ^ k * 2 ^ (64 - k) := by rw [← Nat.pow_add, show k + (64 - k) = 64 by omega]
    have h2 : (x * 2 ^ (64 - k)) % 18446744073709551616 = x % 2 ^ k * 2 ^ (64 - k) := by rw [h1, Nat.mul_mod_mul_right]
    rw [← h2, Int.natCast_emod, Int.natCast_mul, Int.natCast_pow]
    rfl
  rw [e]
  have hp : 0 < 2 ^ (64 - k) := Nat.two_pow_pos _
  by_cases c : x % 2 ^ k = 0
  · rw [decide_eq_true c, c]; simp
  · rw [decide_eq_false c]
    have : x % 2 ^ k * 2 ^ (64 - k) ≠ 0 := Nat.mul_ne_zero c (by omega)
    simp only [beq_eq_false_iff_ne]
    omega
end Go.Proofs.YtfegnjpajflnkaaDoor
