/- Texts FxDigit, FxRForm, FxRRead, FxRParse, FxIntsWalk, FxLit, FxRLit. -/
import Derived.Test.YtncachlopnpcjaaGreatDoorFxT
import Derived.Deep.DeepCutAuto
import Derived.Laws.RangeString
namespace Go.Proofs.YtncachlopnpcjaaGreatDoor.F
open Go.RowKit Fl
set_option linter.unusedSimpArgs false
set_option linter.unusedVariables false

def ixFrom (k : Nat) (c : UInt8) : Int := if Lib.indexByte (hexL.drop k) c = -1 then -1 else (k : Int) + Lib.indexByte (hexL.drop k) c
theorem ixFrom_zero (c : UInt8) : ixFrom 0 c = hix c := by
  unfold ixFrom hix
  simp only [List.drop_zero]
  split <;> omega
theorem ib_hit (c : UInt8) (l : List UInt8) : Lib.indexByte (c :: l) c = 0 := by simp [Lib.indexByte]
theorem ib_miss (b c : UInt8) (l : List UInt8) (e : b ≠ c) : Lib.indexByte (b :: l) c = if Lib.indexByte l c = -1 then -1 else Lib.indexByte l c + 1 := by
  have e' : (b == c) = false := by simpa using e
  have hge := Lib.indexByte_ge l c
  rw [Lib.indexByte, e']
  simp only [Bool.false_eq_true, if_false]
  repeat' split
  all_goals first | rfl | omega | simp_all
theorem ixFrom_hit (k : Nat) (b c : UInt8) (h : hexL[k]? = some b) (e : b = c) : ixFrom k c = k := by
  obtain ⟨hk, hb⟩ := List.getElem?_eq_some_iff.1 h
  unfold ixFrom
  rw [List.drop_eq_getElem_cons hk, hb, e, ib_hit]
  simp
theorem ixFrom_miss (k : Nat) (b c : UInt8) (h : hexL[k]? = some b) (e : b ≠ c) : ixFrom k c = ixFrom (k + 1) c := by
  obtain ⟨hk, hb⟩ := List.getElem?_eq_some_iff.1 h
  have hge := Lib.indexByte_ge (hexL.drop (k + 1)) c
  unfold ixFrom
  rw [List.drop_eq_getElem_cons hk, hb, ib_miss _ _ _ e]
  repeat' split
  all_goals omega

theorem hix_isd : ∀ c : UInt8, (isd c = true ∧ hix c = (c.toNat : Int) - 48) ∨ (isd c = false ∧ (hix c < 0 ∨ 9 < hix c)) := by
  intro c
  have key : ∀ n : Fin 256, (isd (UInt8.ofNat n.1) = true ∧ hix (UInt8.ofNat n.1) = (n.1 : Int) - 48) ∨ (isd (UInt8.ofNat n.1) = false ∧ (hix (UInt8.ofNat n.1) < 0 ∨ 9 < hix (UInt8.ofNat n.1))) := by
    set_option maxRecDepth 100000 in decide
  have := key ⟨c.toNat, c.toNat_lt⟩
  simpa using this
end Go.Proofs.YtncachlopnpcjaaGreatDoor.F

namespace Go.Proofs.YtncachlopnpcjaaGreatDoor.F
open Go.RowKit Fl
set_option linter.unusedSimpArgs false
set_option linter.unusedVariables false

/-- The text of a size that is no nought, no infinity and no NaN. -/
structure Form (t : List UInt8) (F : Nat) (E : Int) : Prop where
  txt : t = [48, 120, 49] ++ (fracL F ++ 112 :: expL E)
  hF : F < 4503599627370496
  h0 : -1074 ≤ E
  h1 : E ≤ 1023
  sub : E < -1022 → (4503599627370496 + F) % 2 ^ (-1022 - E).toNat = 0

def signV (n : Bool) : Int := if n then 9223372036854775808 else 0
/-- An answer that is right wherever the text is one of Text's. -/
def Good (s : List UInt8) (v : Int) : Prop := U v ∧ ∀ a, U a → textS a = s → v = canonS a

theorem good_special (s : List UInt8) (v : Int) (h : parseS s = (v, 0)) (hu : U v) : Good s v := by
  refine ⟨hu, fun a ha e => ?_⟩
  have := parse_text a ha
  rw [e, h] at this
  exact congrArg Prod.fst this

theorem form_of (a : Int) (ha : U a) (h : classS a = 4 ∨ classS a = 5) :
    ∃ F E, Form (sizeL (classS a) (partM a).toNat (partE a)) F E ∧ (joinS F E : Int) = a % 9223372036854775808 := by
  obtain ⟨j1, j2, j3⟩ := join_back a ha h
  have hF : nrm (partM a).toNat % 4503599627370496 < 4503599627370496 := Nat.mod_lt _ (by decide)
  refine ⟨_, _, ⟨sizeL_great a h, hF, j1, j2, ?_⟩, j3⟩
  intro hE
  rcases class_parts a ha with e | e | e | ⟨_, m1, m2, e1, e2⟩
  · omega
  · omega
  · omega
  obtain ⟨b1, b2, b3, b4⟩ := nrm_bounds (partM a).toNat (by omega) (by omega)
  rw [show 4503599627370496 + nrm (partM a).toNat % 4503599627370496 = nrm (partM a).toNat by omega]
  have hk : (-1022 - (partE a - (shf (partM a).toNat : Int) + 52)).toNat ≤ shf (partM a).toNat := by omega
  generalize (-1022 - (partE a - (shf (partM a).toNat : Int) + 52)).toNat = k at *
  unfold nrm
  exact Nat.mod_eq_zero_of_dvd (Nat.dvd_trans (Nat.pow_dvd_pow 2 hk) (Nat.dvd_mul_left _ _))

theorem text_key (a : Int) : Lib.trimPrefix (textS a) [45] = sizeL (classS a) (partM a).toNat (partE a) ∧ Lib.hasPrefix (textS a) [45] = partN a := by
  have hne : Lib.hasPrefix (sizeL (classS a) (partM a).toNat (partE a)) [45] = false := by
    unfold sizeL Lib.hasPrefix
    repeat' split
    all_goals first | rfl | simp
  unfold textS
  cases partN a
  · simp only [Bool.false_eq_true, if_false, List.nil_append]
    exact ⟨by unfold Lib.trimPrefix; rw [hne]; simp, hne⟩
  · simp [Lib.trimPrefix, Lib.hasPrefix]

theorem text_form (s t : List UInt8) (n : Bool) (h1 : (s == [110, 97, 110]) = false) (h2 : (s == [105, 110, 102]) = false) (h3 : (s == [45, 105, 110, 102]) = false) (h4 : (s == [45, 48, 120, 48, 112, 43, 48]) = false)
    (hn : Lib.hasPrefix s [45] = n) (ht : Lib.trimPrefix s [45] = t) (a : Int) (ha : U a) (hs : textS a = s) :
    (canonS a = 0 ∧ t = [48, 120, 48, 112, 43, 48]) ∨ ∃ F E, Form t F E ∧ canonS a = signV n + joinS F E := by
  obtain ⟨k1, k2⟩ := text_key a
  rw [hs, ht] at k1
  rw [hs, hn] at k2
  have hcn := class_nan a
  obtain ⟨h0, hU⟩ := ha
  have ts : s = (if n then [45] else []) ++ t := by rw [← hs, k1, k2]; rfl
  rcases class_cases a with e | e | e | e | e
  · rw [e] at k1
    have hp : partN a = false := by simp [partN, e]
    rw [hp] at k2
    subst k2
    rw [ts, k1] at h1
    cases h1
  · rw [e] at k1
    rw [ts, k1] at h2 h3
    cases n
    · cases h2
    · cases h3
  · rw [e] at k1
    rw [ts, k1] at h4
    cases n
    · left
      have hnn : nan a = false := by cases h : nan a <;> simp_all
      have hp : partN a = decide (9223372036854775808 ≤ a) := by simp [partN, e]
      rw [hp] at k2
      have hlt := of_decide_eq_false k2.symm
      have hr : a % 9223372036854775808 = 0 := by
        unfold classS at e
        revert e
        repeat' split
        all_goals omega
      exact ⟨by rw [canon_self a hnn]; omega, k1⟩
    · cases h4
  all_goals
    right
    have hnn : nan a = false := by cases h : nan a <;> simp_all
    have hp : partN a = decide (9223372036854775808 ≤ a) := by simp [partN, e]
    obtain ⟨F, E, f1, f2⟩ := form_of a ⟨h0, hU⟩ (by omega)
    refine ⟨F, E, by rw [k1]; exact f1, ?_⟩
    rw [canon_self a hnn, f2, k2, hp]
    unfold signV
    by_cases c : 9223372036854775808 ≤ a
    · rw [decide_eq_true c]; simp only [if_true]; omega
    · rw [decide_eq_false c]; simp only [Bool.false_eq_true, if_false]; omega

theorem form_head {t : List UInt8} {F : Nat} {E : Int} (h : Form t F E) : t.take 3 = [48, 120, 49] := by rw [h.txt]; rfl

def scanH : Nat → List UInt8 → Nat → Nat × List UInt8
  | 0, r, acc => (acc, r)
  | _ + 1, [], acc => (acc, [])
  | k + 1, c :: r, acc => if hix c < 0 then (acc, c :: r) else scanH k r (acc * 16 + (hix c).toNat)
def fracS (t : List UInt8) : Nat × List UInt8 :=
  if t[3]? = some 46 then ((scanH 13 (t.drop 4) 0).1 * 16 ^ (13 - ((t.drop 4).length - (scanH 13 (t.drop 4) 0).2.length)), (scanH 13 (t.drop 4) 0).2) else (0, t.drop 3)

theorem scan_fold (c : UInt8) (R : List UInt8) (hc : hix c < 0) (ds : List UInt8) : ∀ (k acc x : Nat), ds.length ≤ k → foldHex ds acc = some x → scanH k (ds ++ c :: R) acc = (x, c :: R) := by
  induction ds with
  | nil =>
    intro k acc x _ h
    cases h
    cases k with
    | zero => rfl
    | succ k => simp [scanH, hc]
  | cons d ds ih =>
    intro k acc x hk h
    rw [List.length_cons] at hk
    rw [foldHex] at h
    cases k with
    | zero => omega
    | succ k =>
      rw [List.cons_append, scanH]
      by_cases hd : hix d < 0
      · rw [if_pos hd] at h; cases h
      · rw [if_neg hd] at h ⊢
        exact ih k _ x (by omega) h

theorem frac_form (F : Nat) (hF : F < 4503599627370496) (R : List UInt8) : fracS ([48, 120, 49] ++ (fracL F ++ 112 :: R)) = (F, 112 :: R) := by
  unfold fracL
  by_cases h : F = 0
  · subst h
    unfold fracS
    simp
  · rw [if_neg h]
    obtain ⟨i1, i2, i3⟩ := hexF_fold 13 F 0 (by omega) hF (by rw [Nat.sub_self, Nat.pow_zero, Nat.mod_one])
    have e1 := scan_fold 112 R (by decide) _ 13 0 _ i3 i1
    unfold fracS
    have e0 : ([48, 120, 49] ++ (46 :: hexF 13 F ++ 112 :: R)).drop 4 = hexF 13 F ++ 112 :: R := rfl
    have e3 : ([48, 120, 49] ++ (46 :: hexF 13 F ++ 112 :: R))[3]? = some 46 := rfl
    rw [if_pos e3, e0, e1]
    simp only [List.length_append, Nat.add_sub_cancel, Nat.zero_mul, Nat.zero_add]
    generalize (hexF 13 F).length = j at *
    congr 1
    exact Nat.div_mul_cancel (Nat.dvd_of_mod_eq_zero i2)

theorem exp_shape (E : Int) (h0 : -1074 ≤ E) (h1 : E ≤ 1023) : ∃ x ds, expL E = x :: ds ∧ 1 ≤ ds.length ∧ ds.length ≤ 4 ∧ foldDec ds 0 = some E.natAbs ∧ ((x = 45 ∧ E < 0) ∨ (x = 43 ∧ 0 ≤ E)) := by
  have hpos : ∀ m, 1 ≤ (Lib.decDigits m).length := by
    intro m
    rw [Lib.decDigits]
    split <;> simp
  unfold expL
  by_cases c : E < 0
  · rw [if_pos c]
    exact ⟨_, _, rfl, hpos _, decDigits_len4 E.natAbs (by omega), foldDec_digits _, Or.inl ⟨rfl, c⟩⟩
  · rw [if_neg c]
    exact ⟨_, _, rfl, hpos _, decDigits_len4 E.toNat (by omega), by rw [foldDec_digits]; congr 1; omega, Or.inr ⟨rfl, by omega⟩⟩

theorem form_tail {t : List UInt8} {F : Nat} {E : Int} (h : Form t F E) : ∃ x ds, fracS t = (F, 112 :: x :: ds) ∧ 1 ≤ ds.length ∧ ds.length ≤ 4 ∧ foldDec ds 0 = some E.natAbs ∧ ((x = 45 ∧ E < 0) ∨ (x = 43 ∧ 0 ≤ E)) ∧ 6 ≤ t.length ∧ t.length ≤ 40 := by
  obtain ⟨x, ds, e1, e2, e3, e4, e5⟩ := exp_shape E h.h0 h.h1
  have hl := fracL_len F
  refine ⟨x, ds, ?_, e2, e3, e4, e5, ?_, ?_⟩
  · rw [h.txt, frac_form F h.hF, e1]
  · rw [h.txt, e1]; simp; omega
  · rw [h.txt, e1]; simp; omega

/-- Where the scan ends. -/
theorem frac_exit (t : List UInt8) (acc j : Nat) (h3 : t[3]? = some 46) (hj : j + 4 ≤ t.length) (h : scanH 13 (t.drop 4) 0 = (acc, t.drop (j + 4))) : fracS t = (acc * 16 ^ (13 - j), t.drop (j + 4)) := by
  unfold fracS
  rw [if_pos h3, h]
  simp only [List.length_drop]
  rw [show t.length - 4 - (t.length - (j + 4)) = j by omega]
theorem frac_none (t : List UInt8) (h3 : ¬ t[3]? = some 46) : fracS t = (0 * 16 ^ (13 - 0), t.drop 3) := by
  unfold fracS
  rw [if_neg h3, Nat.zero_mul]

/-- Form, where the places are known. -/
theorem form_at {t : List UInt8} {F i m : Nat} {E : Int} (h : Form t F E) (hf : fracS t = (m, t.drop i)) : F = m ∧ ∃ x ds, t.drop i = 112 :: x :: ds ∧ 1 ≤ ds.length ∧ ds.length ≤ 4 ∧ foldDec ds 0 = some E.natAbs ∧ ((x = 45 ∧ E < 0) ∨ (x = 43 ∧ 0 ≤ E)) := by
  obtain ⟨x, ds, e1, e2, e3, e4, e5, _⟩ := form_tail h
  rw [hf] at e1
  exact ⟨(congrArg Prod.fst e1).symm, x, ds, congrArg Prod.snd e1, e2, e3, e4, e5⟩

theorem or_sign (n : Bool) (x : Int) (h0 : 0 ≤ x) (h1 : x < 9223372036854775808) : bits .or .u64 (signV n) x = signV n + x := by
  unfold signV
  cases n
  · simp only [Bool.false_eq_true, if_false]
    rw [u64_or _ _ (by omega) (by omega) (by omega) (by omega)]
    rw [show (0 : Int).toNat = 0 from rfl, Nat.zero_or]
    omega
  · simp only [if_true]
    rw [u64_or _ _ (by omega) (by omega) (by omega) (by omega)]
    have := nat_join 63 9223372036854775808 x.toNat (by decide) (by omega)
    rw [show (9223372036854775808 : Int).toNat = 9223372036854775808 from rfl, this]
    omega
/-- The sign, the exponent, the fraction, one after another. -/
theorem or_three (n : Bool) (e : Int) (m : Nat) (h0 : -1022 ≤ e) (h1 : e ≤ 1023) (hm : m < 4503599627370496) :
    IntKind.u64.wrap ((e + 1023) * 4503599627370496) = (e + 1023) * 4503599627370496 ∧ bits .or .u64 (signV n) ((e + 1023) * 4503599627370496) = signV n + (e + 1023) * 4503599627370496 ∧ bits .or .u64 (signV n + (e + 1023) * 4503599627370496) (m : Int) = signV n + (joinS m e : Nat) := by
  refine ⟨by rw [IntKind.wrap_u64]; omega, or_sign n _ (by omega) (by omega), ?_⟩
  have hs : signV n = 0 ∨ signV n = 9223372036854775808 := by cases n <;> simp [signV]
  rw [u64_or _ _ (by omega) (by omega) (by omega) (by omega)]
  have := nat_join 52 (signV n + (e + 1023) * 4503599627370496).toNat m (by omega) (by omega)
  rw [Int.toNat_natCast, this]
  unfold joinS
  rw [if_neg (by omega)]
  omega
theorem or_hidn (m : Nat) (hm : m < 4503599627370496) : bits .or .u64 (m : Int) 4503599627370496 = ((4503599627370496 + m : Nat) : Int) := by
  rw [u64_or _ _ (by omega) (by omega) (by omega) (by omega)]
  have := nat_join 52 4503599627370496 m (by decide) (by omega)
  rw [show (4503599627370496 : Int).toNat = 4503599627370496 from rfl, Int.toNat_natCast, Nat.or_comm, this]
/-- What is shifted out at the upper end is nothing just if the last k bits are nothing. -/
theorem lost_bits (x k : Nat) (hk : 1 ≤ k) (hk2 : k ≤ 52) : (IntKind.u64.wrap ((x : Int) * 2 ^ (64 - k)) == 0) = decide (x % 2 ^ k = 0) := by
  rw [IntKind.wrap_u64]
  have e : ((x : Int) * 2 ^ (64 - k)) % 18446744073709551616 = ((x % 2 ^ k * 2 ^ (64 - k) : Nat) : Int) := by
    have h1 : (18446744073709551616 : Nat) = 2 ^ k * 2 ^ (64 - k) := by rw [← Nat.pow_add, show k + (64 - k) = 64 by omega]
    have h2 : (x * 2 ^ (64 - k)) % 18446744073709551616 = x % 2 ^ k * 2 ^ (64 - k) := by rw [h1, Nat.mul_mod_mul_right]
    rw [← h2, Int.natCast_emod, Int.natCast_mul, Int.natCast_pow]
    rfl
  rw [e]
  have hp : 0 < 2 ^ (64 - k) := Nat.two_pow_pos _
  by_cases c : x % 2 ^ k = 0
  · rw [decide_eq_true c, c]; simp
  · rw [decide_eq_false c]
    have : x % 2 ^ k * 2 ^ (64 - k) ≠ 0 := Nat.mul_ne_zero c (by omega)
    simp only [beq_eq_false_iff_ne]
    omega
end Go.Proofs.YtncachlopnpcjaaGreatDoor.F

namespace Go.Proofs.YtncachlopnpcjaaGreatDoor.F
open Go.RowKit Fl
set_option linter.unusedSimpArgs false
set_option linter.unusedVariables false

theorem str_len (t : List UInt8) : ((⟨t.toArray⟩ : ByteArray).size : Int) = (t.length : Int) := by simp [ByteArray.size]
theorem sign_split (s : List UInt8) : (Lib.hasPrefix s [45] = true ∧ s = 45 :: Lib.trimPrefix s [45]) ∨ (Lib.hasPrefix s [45] = false ∧ Lib.trimPrefix s [45] = s ∧ (s = [] ∨ ∃ c q, s = c :: q ∧ ((c.toNat : Int) == 45) = false)) := by
  cases s with
  | nil => right; exact ⟨rfl, rfl, Or.inl rfl⟩
  | cons c q =>
    by_cases h : c = 45
    · subst h
      left
      exact ⟨rfl, rfl⟩
    · right
      have hp : Lib.hasPrefix (c :: q) [45] = false := by
        show List.isPrefixOf [45] (c :: q) = false
        simp [List.isPrefixOf]
        exact fun e => h e.symm
      refine ⟨hp, by unfold Lib.trimPrefix; rw [hp]; simp, Or.inr ⟨c, q, rfl, ?_⟩⟩
      simp only [beq_eq_false_iff_ne, ne_eq]
      intro hc
      exact h (UInt8.toNat_inj.1 (by have : c.toNat = 45 := by omega
                                     exact this))
theorem sh_frac (M nn : Nat) (hn : nn ≤ 13) (hM : M < 16 ^ nn) : IntKind.u64.wrap ((M : Int) * 2 ^ (4 * (13 - (nn : Int))).toNat) = ((M * 16 ^ (13 - nn) : Nat) : Int) ∧ M * 16 ^ (13 - nn) < 4503599627370496 := by
  rw [show (4 * (13 - (nn : Int))).toNat = 4 * (13 - nn) by omega, IntKind.wrap_u64]
  have e16 : (16 : Nat) ^ (13 - nn) = 2 ^ (4 * (13 - nn)) := by rw [Nat.pow_mul]
  have hb : M * 16 ^ (13 - nn) < 16 ^ 13 := by
    have : 16 ^ nn * 16 ^ (13 - nn) = 16 ^ 13 := by rw [← Nat.pow_add]; congr 1; omega
    rw [← this]
    exact Nat.mul_lt_mul_of_pos_right hM (Nat.pow_pos (by decide))
  rw [e16] at hb ⊢
  have e3 : ((M * 2 ^ (4 * (13 - nn)) : Nat) : Int) = (M : Int) * 2 ^ (4 * (13 - nn)) := by rw [Int.natCast_mul, Int.natCast_pow]; rfl
  rw [← e3]
  generalize M * 2 ^ (4 * (13 - nn)) = z at *
  omega

def eV (x : UInt8) (acc : Nat) : Int := if x = 45 then -(acc : Int) else (acc : Int)

end Go.Proofs.YtncachlopnpcjaaGreatDoor.F

namespace Go.Proofs.YtncachlopnpcjaaGreatDoor.F
open Go.RowKit Fl
set_option linter.unusedSimpArgs false
set_option linter.unusedVariables false

theorem good_nan : Good [110, 97, 110] 9221120237041090561 := good_special _ _ rfl ⟨by omega, by omega⟩
theorem good_inf : Good [105, 110, 102] 9218868437227405312 := good_special _ _ rfl ⟨by omega, by omega⟩
theorem good_ninf : Good [45, 105, 110, 102] 18442240474082181120 := good_special _ _ rfl ⟨by omega, by omega⟩
theorem good_nzero : Good [45, 48, 120, 48, 112, 43, 48] 9223372036854775808 := good_special _ _ rfl ⟨by omega, by omega⟩
theorem parse_good (s : List UInt8) (v : Int) (g : Good s v) : parseS s = if textS v == s then (v, 0) else (0, 10) := by
  by_cases h : textS v = s
  · have e : (textS v == s) = true := by simpa using h
    have h2 := g.2 v g.1 h
    rw [if_pos e, ← h, parse_text v g.1, ← h2]
  · have e : (textS v == s) = false := by simpa using h
    rw [if_neg (by rw [e]; simp)]
    unfold parseS
    generalize hx : signed_ (Lib.hasPrefix s [45]) (rsS (Lib.trimPrefix s [45])).1 = x
    have hxU : U x := by
      rw [← hx]
      unfold signed_
      split
      · exact neg_U _ (rs_U _)
      · exact rs_U _
    by_cases hq : textS x = s
    · have h2 := g.2 x hxU hq
      exfalso
      apply h
      rw [h2, text_canon x hxU, hq]
    · have e2 : (textS x == s) = false := by simpa using hq
      rw [e2, Bool.and_false]
      rfl

end Go.Proofs.YtncachlopnpcjaaGreatDoor.F

namespace Go.Proofs.YtncachlopnpcjaaGreatDoor.F
open Go.RowKit Fl
set_option linter.unusedSimpArgs false
set_option linter.unusedVariables false

def Rep (M r : Nat) : Prop := r < 9218868437227405312 ∧ val r = M * K
theorem rep_of (M : Nat) (h : M ≤ 9007199254740992) : ∃ r, Rep M r := by
  by_cases c : M < 9007199254740992
  · obtain ⟨r, hr, hv⟩ := val_of M ((0 : Int) + 1074).toNat c (by omega)
    exact ⟨r, hr, hv⟩
  · obtain ⟨r, hr, hv⟩ := val_of 4503599627370496 (((0 : Int) + 1074).toNat + 1) (by omega) (by omega)
    refine ⟨r, hr, ?_⟩
    have e : 2 ^ ((0 : Int) + 1074).toNat = K := by rw [K]
    rw [hv, Nat.pow_succ, e, show M = 4503599627370496 * 2 by omega]
    generalize K = k
    omega
theorem fi_word (n : Int) (r : Nat) (h : Rep n.natAbs r) : floatOfInt .f64 n = Ieee.double.word (decide (n < 0)) r := by
  rw [floatOfInt_eq, rung_exact n.natAbs 0 r ((0 : Int) + 1074).toNat 0 h.1 (by omega) (by rw [h.2, Nat.pow_zero, Nat.mul_one, K])]
theorem rep_zero (M r : Nat) (h : Rep M r) : r = 0 ↔ M = 0 := by
  rw [← val_inj, h.2, val_zero, Nat.mul_eq_zero]
  have := K_pos
  omega

/-- A double that is a whole number, read. -/
theorem read_word (s : Bool) (r : Nat) (hr : r < 9218868437227405312) : Ieee.double.read (Ieee.double.word s r) = .number s (mag r) (-1074 + (ex r : Nat)) := by
  rw [word_f]
  cases s
  · simp only [Bool.false_eq_true, if_false]
    exact read_pos r hr
  · simp only [if_true]
    have e1 : (9223372036854775808 + r) % 9223372036854775808 = r := by omega
    have e2 : (9223372036854775808 + r) / 9223372036854775808 % 2 = 1 := by omega
    rw [read_fin _ (by omega), e1, e2]
    rfl

theorem fromInt_is (n v : Int) (h : ((floatOfInt .f64 n : Nat) : Int) = v) (w : World) :
    Calls Tryz.prog 106 #[.int .i64 n] w fun e w' => e = .returned (.int .u64 v) ∧ w = w' := h ▸ fromInt_any n w
end Go.Proofs.YtncachlopnpcjaaGreatDoor.F

namespace Go.Proofs.YtncachlopnpcjaaGreatDoor.F
open Go.RowKit Fl
set_option linter.unusedSimpArgs false
set_option linter.unusedVariables false

theorem quo_some (m k : Nat) (hm : m ≤ 9007199254740992) (hk : k ≤ 9007199254740992) (hk0 : k ≠ 0) :
    ∃ r : Nat, floatBits .quo .f64 (floatOfInt .f64 (m : Int)) (floatOfInt .f64 (k : Int)) = some r ∧ nan (r : Int) = false := by
  obtain ⟨rm, h1⟩ := rep_of m hm
  obtain ⟨rk, h2⟩ := rep_of k hk
  have z : rk ≠ 0 := fun h => hk0 ((rep_zero k rk h2).1 h)
  rw [fi_word (m : Int) rm (by simpa using h1), fi_word (k : Int) rk (by simpa using h2)]
  change ∃ r : Nat, Ieee.double.div _ _ = some r ∧ _
  unfold Ieee.Format.div
  rw [read_word _ _ h1.1, read_word _ _ h2.1]
  simp only [Ieee.Datum.quotient]
  rw [if_neg (mag_pos rk z)]
  simp only [Option.map_some, Ieee.Format.write]
  refine ⟨_, rfl, ?_⟩
  rw [nearest_rung]
  exact (nan_word _ _ (rung_le _ _)).1

/-- The quotient of two small whole numbers. -/
def quoS (m k : Nat) : Nat := (floatBits .quo .f64 (floatOfInt .f64 (m : Int)) (floatOfInt .f64 (k : Int))).getD 0
theorem quoS_some (m k : Nat) (hm : m ≤ 9007199254740992) (hk : k ≤ 9007199254740992) (hk0 : k ≠ 0) :
    floatBits .quo .f64 (floatOfInt .f64 (m : Int)) (floatOfInt .f64 (k : Int)) = some (quoS m k) ∧ nan (quoS m k : Int) = false := by
  obtain ⟨r, h1, h2⟩ := quo_some m k hm hk hk0
  have : quoS m k = r := by unfold quoS; rw [h1]; rfl
  rw [this]
  exact ⟨h1, h2⟩

def allD (l : List UInt8) : Bool := l.all isd && !l.isEmpty
theorem allDigits_walk (l : List UInt8) (v : Bool) (hl : l.length ≤ 9223372036854775807) (hv : Hidden (l.all isd = v)) (w : World) :
    Calls Tryz.prog 104 #[.string ⟨l.toArray⟩] w fun e w' => e = .returned (.bool (v && !l.isEmpty)) ∧ w = w' := by
  have hs := str_len l
  go_enter Tryz.func104, Tryz.ntmps104
  go_wp2
  go_loopg [6] l.length (fun k iv wr => ∃ j : Nat, iv = .int .i64 (j : Int) ∧ j ≤ l.length ∧ (l.drop j).all isd = v ∧ k = l.length - j ∧ wr = w)
  case atStart => exact ⟨0, rfl, by omega, hv, rfl, rfl⟩
  case round =>
    obtain ⟨j, rfl, hj, hf, hgk, rfl⟩ := hrel
    have hgkH : Hidden (gk = l.length - j) := hgk
    clear hgk
    by_cases hjl : j < l.length
    · obtain ⟨c, hc⟩ : ∃ c, l[j]? = some c := ⟨l[j], List.getElem?_eq_getElem hjl⟩
      have hdr : l.drop j = c :: l.drop (j + 1) := by
        have := List.drop_eq_getElem_cons hjl
        rw [List.getElem?_eq_getElem hjl] at hc
        cases hc
        exact this
      rw [hdr, List.all_cons] at hf
      have hx := str_index l j c hc
      have kd := isDigit_any c
      clear hdr hc
      cases hdg : isd c
      · rw [hdg] at hf kd
        rw [Bool.false_and] at hf
        subst hf
        clear hdg
        go_wp2_with (go_at_call 124; refine (kd _).mono ?_; rintro e w' ⟨rfl, rfl⟩)
        go_ret
        exact ⟨rfl, rfl⟩
      · rw [hdg] at hf kd
        rw [Bool.true_and] at hf
        have hfH : Hidden ((l.drop (j + 1)).all isd = v) := hf
        clear hdg hf
        go_wp2_with (go_at_call 124; refine (kd _).mono ?_; rintro e w' ⟨rfl, rfl⟩)
        go_roundg (l.length - (j + 1))
        case measure =>
          have : gk = l.length - j := hgkH
          omega
        case rel => exact ⟨j + 1, by go_num, by omega, hfH, rfl, rfl⟩
    · obtain rfl : j = l.length := by omega
      rw [List.drop_length] at hf
      obtain rfl : true = v := hf
      clear hv
      go_wp2
      go_ret
      exact ⟨by simp, rfl⟩
theorem allDigits_is (l : List UInt8) (v : Bool) (hv : allD l = v) (hl : l.length ≤ 9223372036854775807) (w : World) :
    Calls Tryz.prog 104 #[.string ⟨l.toArray⟩] w fun e w' => e = .returned (.bool v) ∧ w = w' := by
  have := allDigits_walk l _ hl rfl w
  rw [← hv]
  exact this

def stepD (m : Nat) (c : UInt8) : Nat := m * 10 + (c.toNat - 48)
def numD (l : List UInt8) : Nat := l.foldl stepD 0
theorem isd_lt (c : UInt8) (h : isd c = true) : ∃ D, c.toNat = D + 48 ∧ D ≤ 9 := by
  have hcb : 48 ≤ c.toNat ∧ c.toNat ≤ 57 := by simpa [isd] using h
  exact ⟨c.toNat - 48, by omega, by omega⟩
theorem numD_lt (l : List UInt8) : ∀ (m k : Nat), l.all isd = true → m < 10 ^ k → l.foldl stepD m < 10 ^ (k + l.length) := by
  induction l with
  | nil => intro m k _ h; simpa using h
  | cons c l ih =>
    intro m k h hm
    rw [List.all_cons, Bool.and_eq_true] at h
    obtain ⟨D, hD, hD9⟩ := isd_lt c h.1
    rw [List.foldl_cons, List.length_cons, show k + (l.length + 1) = k + 1 + l.length by omega]
    refine ih _ _ h.2 ?_
    unfold stepD
    rw [Nat.pow_succ]
    omega

def litS (s : List UInt8) : Int × Int :=
  if (cut1 s 46).2.2 && allD (cut1 s 46).1 && allD (cut1 s 46).2.1 then
    if 15 < (cut1 s 46).1.length + (cut1 s 46).2.1.length then (0, 3) else ((quoS (numD ((cut1 s 46).1 ++ (cut1 s 46).2.1)) (10 ^ (cut1 s 46).2.1.length) : Nat), 0)
  else (0, 10)

theorem kb_iter (w : World) (s : ByteArray) (pos : Nat) : Kb w (w.iter s pos) := by
  refine ⟨⟨rfl, rfl, fun i hi => ?_⟩, by show w.heap.size ≤ (w.heap.push _).size; rw [Array.size_push]; omega⟩
  have e : (w.iter s pos).heap[i]? = w.heap[i]? := by
    show (w.heap.push _)[i]? = _
    rw [Array.getElem?_push_lt hi]
    exact (Array.getElem?_eq_getElem hi).symm
  rw [e]
  cases w.heap[i]? with
  | none => rfl
  | some o => cases o <;> simp

theorem pow10_le (k : Nat) (h : k ≤ 15) : 10 ^ k ≤ 1000000000000000 := Nat.pow_le_pow_right (by decide) h

theorem next_digit (w : World) (q : List UInt8) (j : Nat) (c : UInt8) (hc : q[j]? = some c) (h : c.toNat < 128) (ty : TypeId) :
    (Instr.next (.pointer (some ⟨w.heap.size, 0, none⟩)) true ty).run Tryz.prog (w.iter ⟨q.toArray⟩ j) = .ok (.tuple #[.bool true, .int .i64 (j : Int), .int .i32 (c.toNat : Int)]) (w.iter ⟨q.toArray⟩ (j + 1)) := by
  obtain ⟨hk, hcc⟩ := List.getElem?_eq_some_iff.1 hc
  have hs : j < (⟨q.toArray⟩ : ByteArray).size := by simpa [ByteArray.size] using hk
  have e : (⟨q.toArray⟩ : ByteArray)[j]'hs = c := by
    show q.toArray[j] = c
    simpa using hcc
  have := run_next_ascii (P := Tryz.prog) w ⟨q.toArray⟩ j ty hs (by rw [e]; exact h)
  rw [e] at this
  exact this

set_option maxRecDepth 20000 in
set_option maxHeartbeats 4000000 in
theorem lit_good (s b a q : List UInt8) (N : Nat) (hs : s.length ≤ 9223372036854775807) (hcut : Hidden (cut1 s 46 = (b, a, true))) (hA : Hidden (allD b = true)) (hB : Hidden (allD a = true)) (hq : Hidden (b ++ a = q)) (hL : b.length + a.length ≤ 15) (hN : Hidden (numD q = N)) (w : World) :
    Calls Tryz.prog 90 #[.string ⟨s.toArray⟩] w fun r w' => r = .returned (.tuple #[.int .u64 (quoS N (10 ^ a.length) : Nat), .int .i64 0]) ∧ Kb w w' := by
  have k1 := cut_any s 46 b a true hcut hs
  have hA2 : allD b = true := hA
  have hB2 : allD a = true := hB
  have hlb : b.length ≤ 9223372036854775807 := by omega
  have hla : a.length ≤ 9223372036854775807 := by omega
  have hb := str_len b
  have ha := str_len a
  have hcat := fun W : World => run_string_add_lists (P := Tryz.prog) W b a (by omega) (by omega)
  rw [show b ++ a = q from hq] at hcat
  have hql : q.length = b.length + a.length := by rw [← show b ++ a = q from hq]; simp
  have hqd : Hidden (q.all isd = true) := by
    have h1 : allD b = true := hA
    have h2 : allD a = true := hB
    unfold allD at h1 h2
    rw [Bool.and_eq_true] at h1 h2
    show _ = _
    rw [← show b ++ a = q from hq, List.all_append, h1.1, h2.1]
    rfl
  have hNb : N < 10 ^ q.length := by
    have := numD_lt q 0 0 hqd (by decide)
    rw [← show numD q = N from hN]
    rw [Nat.zero_add] at this
    exact this
  have hp15 : Hidden (10 ^ q.length ≤ 1000000000000000) := pow10_le q.length (by omega)
  have hpa := pow10_le a.length (by omega)
  have hpa0 : 10 ^ a.length ≠ 0 := by have := Nat.pow_pos (n := a.length) (show 0 < 10 by decide); omega
  obtain ⟨hq1, hq2⟩ := quoS_some N (10 ^ a.length) (by have : 10 ^ q.length ≤ 1000000000000000 := hp15; omega) (by omega) hpa0
  have kdv := div_exact (floatOfInt .f64 (N : Int) : Nat) (floatOfInt .f64 ((10 ^ a.length : Nat) : Int) : Nat) _ (by simpa using hq1) hq2
  generalize quoS N (10 ^ a.length) = V at *
  generalize hPP : 10 ^ a.length = PP at *
  generalize hX : ((floatOfInt .f64 (N : Int) : Nat) : Int) = X at *
  generalize hY : ((floatOfInt .f64 (PP : Int) : Nat) : Int) = Y at *
  have hPH : Hidden (10 ^ a.length = PP) := hPP
  have hNH : Hidden (N < 10 ^ q.length) := hNb
  have hq15 : q.length ≤ 15 := by omega
  clear hPP hq1 hq2 hpa0 hNb hql
  go_enter Tryz.func90, Tryz.ntmps90
  go_wp2_with (first
    | (go_at_call 103; refine (k1 _).mono ?_; rintro e W1 ⟨rfl, g⟩)
    | (go_at_call 104; refine (allDigits_is _ _ (by with_reducible assumption) (by with_reducible assumption) _).mono ?_; rintro e w' ⟨rfl, rfl⟩))
  go_loopg [7] q.length (fun k mv wr => ∃ j acc : Nat, mv = .int .i64 (acc : Int) ∧ j ≤ q.length ∧ acc < 10 ^ j ∧ (q.drop j).foldl stepD acc = N ∧ k = q.length - j ∧ wr = W1.iter ⟨q.toArray⟩ j)
  case atStart => exact ⟨0, 0, rfl, by omega, by simp, hN, rfl, rfl⟩
  case round =>
    obtain ⟨j, acc, rfl, hj, hacc, hf, hgk, rfl⟩ := hrel
    have hgkH : Hidden (gk = q.length - j) := hgk
    have haccH : Hidden (acc < 10 ^ j) := hacc
    have hab : acc < 1000000000000000 := Nat.lt_of_lt_of_le hacc (pow10_le j (by omega))
    clear hgk hacc
    by_cases hjl : j < q.length
    · obtain ⟨c, hc⟩ : ∃ c, q[j]? = some c := ⟨q[j], List.getElem?_eq_getElem hjl⟩
      have hdr : q.drop j = c :: q.drop (j + 1) := by
        have := List.drop_eq_getElem_cons hjl
        rw [List.getElem?_eq_getElem hjl] at hc
        cases hc
        exact this
      have hci : isd c = true := by
        have h1 : q.all isd = true := hqd
        rw [List.all_eq_true] at h1
        exact h1 c (List.mem_of_getElem? hc)
      obtain ⟨D, hD, hD9⟩ := isd_lt c hci
      rw [hdr, List.foldl_cons, stepD, hD, Nat.add_sub_cancel] at hf
      have hnx := next_digit W1 q j c hc (by omega)
      rw [show ((c.toNat : Nat) : Int) = (D : Int) + 48 by omega] at hnx
      have hfH : Hidden ((q.drop (j + 1)).foldl stepD (acc * 10 + D) = N) := hf
      have hp2 : Hidden (acc * 10 + D < 10 ^ (j + 1)) := by
        show _ < _
        have : acc < 10 ^ j := haccH
        rw [Nat.pow_succ]
        omega
      clear hdr hc hci hD hf
      go_wp2
      go_roundg (q.length - (j + 1))
      case measure =>
        have : gk = q.length - j := hgkH
        omega
      case rel => exact ⟨j + 1, acc * 10 + D, by go_num, by omega, hp2, hfH, rfl, rfl⟩
    · obtain rfl : j = q.length := by omega
      rw [List.drop_length, List.foldl_nil] at hf
      subst hf
      have hnx := fun ty => run_next_end (P := Tryz.prog) W1 ⟨q.toArray⟩ q.length ty (by simp [ByteArray.size])
      go_wp2
      go_loopg [8, 50] a.length (fun k pv iv wr => ∃ j p : Nat, pv = .int .i64 (p : Int) ∧ iv = .int .i64 (j : Int) ∧ p = 10 ^ j ∧ j ≤ a.length ∧ k = a.length - j ∧ wr = W1.iter ⟨q.toArray⟩ q.length)
      case atStart => exact ⟨0, 1, rfl, rfl, by simp, by omega, rfl, rfl⟩
      case round =>
        obtain ⟨i, p, rfl, rfl, hp, hi, hgk2, rfl⟩ := hrel
        have hgkH2 : Hidden (gk = a.length - i) := hgk2
        have hpb := pow10_le i (by omega)
        rw [← hp] at hpb
        have hpH : Hidden (p = 10 ^ i) := hp
        clear hp hgk2
        by_cases hia : i < a.length
        · have hpn : Hidden (p * 10 = 10 ^ (i + 1)) := by
            show _ = _
            rw [Nat.pow_succ, ← show p = 10 ^ i from hpH]
          go_wp2
          go_roundg (a.length - (i + 1))
          case measure =>
            have : gk = a.length - i := hgkH2
            omega
          case rel => exact ⟨i + 1, p * 10, by go_num, by go_num, hpn, by omega, rfl, rfl⟩
        · obtain rfl : i = a.length := by omega
          obtain rfl : p = PP := (show p = _ from hpH).trans hPH
          go_wp2_with (first
            | (go_at_call 106; refine (fromInt_is _ _ (by with_reducible assumption) _).mono ?_; rintro e w' ⟨rfl, rfl⟩)
            | (go_at_call 105; refine (kdv _).mono ?_; rintro e w' ⟨rfl, rfl⟩))
          go_ret2
          exact ⟨rfl, g.trans (kb_iter _ _ _)⟩

theorem lit_bad (s b a : List UInt8) (fd A B : Bool) (hs : s.length ≤ 9223372036854775807) (hcut : cut1 s 46 = (b, a, fd)) (hA : allD b = A) (hB : allD a = B) (hlb : b.length ≤ 9223372036854775807) (hla : a.length ≤ 9223372036854775807) (h : (fd && A && B) = false) (w : World) :
    Calls Tryz.prog 90 #[.string ⟨s.toArray⟩] w fun r w' => r = .returned (.tuple #[.int .u64 0, .int .i64 10]) ∧ Kb w w' := by
  have k1 := cut_any s 46 b a fd hcut hs
  clear hcut
  cases fd
  · clear h hA hB
    go_enter Tryz.func90, Tryz.ntmps90
    go_wp2_with (first
      | (go_at_call 103; refine (k1 _).mono ?_; rintro e W1 ⟨rfl, g⟩))
    go_ret2
    exact ⟨rfl, g⟩
  · cases A
    · clear h hB
      go_enter Tryz.func90, Tryz.ntmps90
      go_wp2_with (first
        | (go_at_call 103; refine (k1 _).mono ?_; rintro e W1 ⟨rfl, g⟩)
        | (go_at_call 104; refine (allDigits_is _ _ (by with_reducible assumption) (by with_reducible assumption) _).mono ?_; rintro e w' ⟨rfl, rfl⟩))
      go_ret2
      exact ⟨rfl, g⟩
    · cases B
      · clear h
        go_enter Tryz.func90, Tryz.ntmps90
        go_wp2_with (first
          | (go_at_call 103; refine (k1 _).mono ?_; rintro e W1 ⟨rfl, g⟩)
          | (go_at_call 104; refine (allDigits_is _ _ (by with_reducible assumption) (by with_reducible assumption) _).mono ?_; rintro e w' ⟨rfl, rfl⟩))
        go_ret2
        exact ⟨rfl, g⟩
      · cases h
theorem lit_big (s b a : List UInt8) (hs : s.length ≤ 9223372036854775807) (hcut : cut1 s 46 = (b, a, true)) (hA : allD b = true) (hB : allD a = true) (hlb : b.length ≤ 9223372036854775807) (hla : a.length ≤ 9223372036854775807) (hlab : b.length + a.length ≤ 9223372036854775807) (h : 15 < b.length + a.length) (w : World) :
    Calls Tryz.prog 90 #[.string ⟨s.toArray⟩] w fun r w' => r = .returned (.tuple #[.int .u64 0, .int .i64 3]) ∧ Kb w w' := by
  have k1 := cut_any s 46 b a true hcut hs
  have hb := str_len b
  have ha := str_len a
  clear hcut
  go_enter Tryz.func90, Tryz.ntmps90
  go_wp2_with (first
    | (go_at_call 103; refine (k1 _).mono ?_; rintro e W1 ⟨rfl, g⟩)
    | (go_at_call 104; refine (allDigits_is _ _ (by with_reducible assumption) (by with_reducible assumption) _).mono ?_; rintro e w' ⟨rfl, rfl⟩))
  go_ret2
  exact ⟨rfl, g⟩

theorem cut_lens (s b a : List UInt8) (c : UInt8) (fd : Bool) (h : cut1 s c = (b, a, fd)) : b.length + a.length ≤ s.length := by
  unfold cut1 at h
  have hb := indexByte_lt s c
  split at h
  · cases h
    simp
    omega
  · cases h
    simp
theorem lit_any (s : List UInt8) (v e : Int) (h : litS s = (v, e)) (hs : s.length ≤ 9223372036854775807) (w : World) :
    Calls Tryz.prog 90 #[.string ⟨s.toArray⟩] w fun r w' => r = .returned (.tuple #[.int .u64 v, .int .i64 e]) ∧ Kb w w' := by
  obtain ⟨b, a, fd, hcut⟩ : ∃ b a fd, cut1 s 46 = (b, a, fd) := ⟨_, _, _, rfl⟩
  have hlen := cut_lens s b a 46 fd hcut
  unfold litS at h
  rw [hcut] at h
  simp only at h
  cases hg : (fd && allD b && allD a)
  · rw [hg] at h
    cases h
    exact lit_bad s b a fd _ _ hs hcut rfl rfl (by omega) (by omega) hg w
  · rw [hg] at h
    simp only [if_true] at h
    rw [Bool.and_eq_true, Bool.and_eq_true] at hg
    obtain ⟨⟨g1, g2⟩, g3⟩ := hg
    subst g1
    by_cases c : 15 < b.length + a.length
    · rw [if_pos c] at h
      cases h
      exact lit_big s b a hs hcut g2 g3 (by omega) (by omega) (by omega) c w
    · rw [if_neg c] at h
      cases h
      exact lit_good s b a _ _ hs hcut g2 g3 rfl (by omega) rfl w
end Go.Proofs.YtncachlopnpcjaaGreatDoor.F

namespace Go.Proofs.YtncachlopnpcjaaGreatDoor.F
open Go.RowKit Fl
set_option linter.unusedSimpArgs false
set_option linter.unusedVariables false

/-- Byte by byte: the number so far, how many digits, how many behind the point, whether the point was there. -/
def litR : List UInt8 → Nat → Nat → Nat → Bool → Option (Nat × Nat × Nat)
  | [], m, n, b, _ => some (m, n, b)
  | c :: r, m, n, b, p =>
    if c = 46 ∧ p = false ∧ 0 < n then litR r m n b true
    else if isd c then litR r (if n + 1 ≤ 15 then stepD m c else m) (n + 1) (if p then b + 1 else b) p
    else none
def outR : Option (Nat × Nat × Nat) → Int × Int
  | none => (0, 10)
  | some (m, n, b) => if b = 0 then (0, 10) else if 15 < n then (0, 3) else ((quoS m (10 ^ b) : Nat), 0)

/-- The number, of the first 15 digits alone. -/
def capD : List UInt8 → Nat → Nat → Nat
  | [], m, _ => m
  | c :: r, m, n => capD r (if n + 1 ≤ 15 then stepD m c else m) (n + 1)
theorem capD_small (l : List UInt8) : ∀ (m n : Nat), n + l.length ≤ 15 → capD l m n = l.foldl stepD m := by
  induction l with
  | nil => intro m n _; rfl
  | cons c l ih =>
    intro m n h
    rw [List.length_cons] at h
    rw [capD, List.foldl_cons, if_pos (by omega), ih _ _ (by omega)]
theorem isd_point : isd 46 = false := by decide

theorem litR_behind (l : List UInt8) : ∀ (m n b : Nat), litR l m n b true = if l.all isd then some (capD l m n, n + l.length, b + l.length) else none := by
  induction l with
  | nil => intro m n b; rfl
  | cons c l ih =>
    intro m n b
    rw [litR, if_neg (by simp), List.all_cons, List.length_cons, capD]
    cases h : isd c
    · simp
    · simp only [if_true, Bool.true_and]
      rw [ih]
      split
      · congr 2
        congr 1 <;> omega
      · rfl

theorem cut_cons (c : UInt8) (l : List UInt8) (h : c ≠ 46) : cut1 (c :: l) 46 = (c :: (cut1 l 46).1, (cut1 l 46).2.1, (cut1 l 46).2.2) := by
  have hge := Lib.indexByte_ge l 46
  unfold cut1
  rw [ib_miss c 46 l h]
  by_cases h2 : Lib.indexByte l 46 = -1
  · rw [if_pos h2, h2, if_neg (by omega), if_neg (by omega)]
  · rw [if_neg h2, if_pos (by omega), if_pos (by omega)]
    obtain ⟨i, hi⟩ := Int.eq_ofNat_of_zero_le (show 0 ≤ Lib.indexByte l 46 by omega)
    rw [hi]
    have e : ((i : Int) + 1).toNat = i + 1 := by omega
    rw [e, Int.toNat_natCast]
    simp
theorem cut_hit (l : List UInt8) : cut1 (46 :: l) 46 = ([], l, true) := by
  unfold cut1
  rw [ib_hit]
  simp
theorem cut_nil : cut1 [] 46 = ([], [], false) := by decide

theorem litR_ahead (l : List UInt8) : ∀ (m n : Nat), litR l m n 0 false =
    if (cut1 l 46).1.all isd then
      if (cut1 l 46).2.2 then
        if 0 < n + (cut1 l 46).1.length ∧ (cut1 l 46).2.1.all isd = true then some (capD ((cut1 l 46).1 ++ (cut1 l 46).2.1) m n, n + (cut1 l 46).1.length + (cut1 l 46).2.1.length, (cut1 l 46).2.1.length) else none
      else some (capD (cut1 l 46).1 m n, n + (cut1 l 46).1.length, 0)
    else none := by
  induction l with
  | nil => intro m n; rw [cut_nil]; rfl
  | cons c l ih =>
    intro m n
    by_cases h : c = 46
    · subst h
      rw [cut_hit, litR]
      simp only [List.all_nil, if_true, List.length_nil, Nat.add_zero, List.nil_append]
      by_cases hn : 0 < n
      · rw [if_pos ⟨trivial, trivial, hn⟩, litR_behind]
        by_cases ha : l.all isd = true
        · rw [if_pos ha, if_pos ⟨hn, ha⟩, Nat.zero_add]
        · rw [if_neg ha, if_neg (fun g => ha g.2)]
      · rw [if_neg (fun g => hn g.2.2), isd_point, if_neg (show ¬ (false = true) by simp), if_neg (fun g => hn g.1)]
    · rw [cut_cons c l h, litR, if_neg (fun g => h g.1)]
      simp only [List.all_cons, List.length_cons, List.cons_append, capD, Bool.false_eq_true, if_false]
      cases hd : isd c
      · simp
      · simp only [if_true, Bool.true_and]
        rw [ih]
        have e1 : n + 1 + (cut1 l 46).1.length = n + ((cut1 l 46).1.length + 1) := by omega
        rw [e1]

theorem litR_litS (s : List UInt8) : outR (litR s 0 0 0 false) = litS s := by
  rw [litR_ahead]
  unfold litS allD
  generalize cut1 s 46 = q
  obtain ⟨b, a, fd⟩ := q
  simp only
  cases hb : b.all isd
  · simp [outR]
  · simp only [if_true, Bool.true_and]
    cases fd
    · simp [outR]
    · simp only [if_true, Bool.true_and]
      cases b with
      | nil => simp [outR]
      | cons c b =>
        cases ha : a.all isd
        · simp [outR]
        · cases a with
          | nil => simp [outR]
          | cons d a =>
            rw [if_pos ⟨by simp, rfl⟩]
            simp only [outR, List.isEmpty_cons, Bool.not_false, Bool.and_self, if_true]
            rw [if_neg (by simp), Nat.zero_add]
            by_cases hl : 15 < (c :: b).length + (d :: a).length
            · rw [if_pos hl, if_pos hl]
            · rw [if_neg hl, if_neg hl, capD_small _ _ _ (by rw [List.length_append]; omega)]
              rfl

def capPow (n : Nat) : Nat := 10 ^ (min n 15)
theorem cap_le (n : Nat) : capPow n ≤ 1000000000000000 := pow10_le _ (Nat.min_le_right _ _)
theorem cap_step (m n D : Nat) (h : m < capPow n) (hn : n + 1 ≤ 15) (hD : D ≤ 9) : m * 10 + D < capPow (n + 1) := by
  unfold capPow at *
  rw [Nat.min_eq_left (by omega)] at h
  rw [Nat.min_eq_left hn, Nat.pow_succ]
  omega
theorem cap_keep (m n : Nat) (h : m < capPow n) (hn : ¬ n + 1 ≤ 15) : m < capPow (n + 1) := by
  unfold capPow at *
  rw [Nat.min_eq_right (by omega)] at h ⊢
  exact h

end Go.Proofs.YtncachlopnpcjaaGreatDoor.F
