/- Texts of ours, in one. -/
import Derived.Test.YtoiglopilpoafaaGreatDoorFxA
import Derived.Deep.DeepCutAuto
import Derived.Laws.RangeString
import Derived.Test.YtoiglopilpoafaaGreatDoorPk8
namespace Go.Proofs.YtoiglopilpoafaaGreatDoor.F
open Go.RowKit Fl
set_option linter.unusedSimpArgs false
set_option linter.unusedVariables false

theorem hexF_fold (k : Nat) : ∀ (f acc : Nat), k ≤ 13 → f < 4503599627370496 → f % 16 ^ (13 - k) = 0 →
    foldHex (hexF k f) acc = some (acc * 16 ^ (hexF k f).length + f / 16 ^ (13 - (hexF k f).length)) ∧ f % 16 ^ (13 - (hexF k f).length) = 0 ∧ (hexF k f).length ≤ k := by
  induction k with
  | zero =>
    intro f acc _ hf h
    have h' : f % 4503599627370496 = 0 := h
    have hz : f = 0 := by omega
    subst hz
    simp [hexF, foldHex]
  | succ k ih =>
    intro f acc hk hf h
    unfold hexF
    by_cases hz : f = 0
    · subst hz; simp [foldHex]
    · rw [if_neg hz]
      have hd : f / 281474976710656 < 16 := by omega
      have hx := hix_dig _ hd
      have hf' : f % 281474976710656 * 16 < 4503599627370496 := by omega
      have hm : (f % 281474976710656 * 16) % 16 ^ (13 - k) = 0 := by
        have : k = 0 ∨ k = 1 ∨ k = 2 ∨ k = 3 ∨ k = 4 ∨ k = 5 ∨ k = 6 ∨ k = 7 ∨ k = 8 ∨ k = 9 ∨ k = 10 ∨ k = 11 ∨ k = 12 := by omega
        rcases this with rfl | rfl | rfl | rfl | rfl | rfl | rfl | rfl | rfl | rfl | rfl | rfl | rfl <;> simp at h ⊢ <;> omega
      obtain ⟨i1, i2, i3⟩ := ih (f % 281474976710656 * 16) (acc * 16 + f / 281474976710656) (by omega) hf' hm
      rw [foldHex, if_neg (by rw [hx]; omega), hx, Int.toNat_natCast, i1]
      rw [List.length_cons]
      generalize (hexF k (f % 281474976710656 * 16)).length = j at *
      have hj : j = 0 ∨ j = 1 ∨ j = 2 ∨ j = 3 ∨ j = 4 ∨ j = 5 ∨ j = 6 ∨ j = 7 ∨ j = 8 ∨ j = 9 ∨ j = 10 ∨ j = 11 ∨ j = 12 := by omega
      refine ⟨?_, ?_, by omega⟩
      · congr 1
        rcases hj with rfl | rfl | rfl | rfl | rfl | rfl | rfl | rfl | rfl | rfl | rfl | rfl | rfl <;> simp at i2 ⊢ <;> omega
      · rcases hj with rfl | rfl | rfl | rfl | rfl | rfl | rfl | rfl | rfl | rfl | rfl | rfl | rfl <;> simp at i2 ⊢ <;> omega

theorem rfS_frac (F : Nat) (hF : F < 4503599627370496) : rfS (fracL F) = (F, true) := by
  unfold fracL
  by_cases h : F = 0
  · subst h; rfl
  · rw [if_neg h]
    obtain ⟨i1, i2, i3⟩ := hexF_fold 13 F 0 (by omega) hF (by rw [Nat.sub_self, Nat.pow_zero, Nat.mod_one])
    unfold rfS
    have e1 : Lib.trimPrefix (46 :: hexF 13 F) [46] = hexF 13 F := by simp [Lib.trimPrefix, Lib.hasPrefix]
    have e2 : Lib.hasPrefix (46 :: hexF 13 F) [46] = true := by simp [Lib.hasPrefix]
    rw [e1, e2]
    rw [if_neg (by simp), if_neg (by simp; omega), i1]
    simp only [outF, Option.isSome_some, Nat.zero_mul, Nat.zero_add]
    generalize (hexF 13 F).length = j at *
    have hj : j = 0 ∨ j = 1 ∨ j = 2 ∨ j = 3 ∨ j = 4 ∨ j = 5 ∨ j = 6 ∨ j = 7 ∨ j = 8 ∨ j = 9 ∨ j = 10 ∨ j = 11 ∨ j = 12 ∨ j = 13 := by omega
    congr 1
    exact Nat.div_mul_cancel (Nat.dvd_of_mod_eq_zero i2)

theorem foldDec_append (xs : List UInt8) (d : UInt8) (hd : isd d = true) : ∀ (acc r : Nat), foldDec xs acc = some r → foldDec (xs ++ [d]) acc = some (r * 10 + (d.toNat - 48)) := by
  induction xs with
  | nil => intro acc r h; cases h; simp [foldDec, hd]
  | cons x xs ih =>
    intro acc r h
    rw [foldDec] at h
    rw [List.cons_append, foldDec]
    split at h
    · rename_i hx
      rw [if_pos hx]
      exact ih _ _ h
    · cases h
theorem dig_isd (d : Nat) (h : d < 10) : isd (UInt8.ofNat (48 + d)) = true ∧ (UInt8.ofNat (48 + d)).toNat = 48 + d := by
  have e : (UInt8.ofNat (48 + d)).toNat = 48 + d := by rw [UInt8.toNat_ofNat']; omega
  exact ⟨by simp only [isd, e]; simp; omega, e⟩
theorem foldDec_digits (n : Nat) : foldDec (Lib.decDigits n) 0 = some n := by
  induction n using Nat.strongRecOn with
  | _ n ih =>
    rw [Lib.decDigits]
    by_cases c : n < 10
    · rw [dif_pos c]
      have := dig_isd n c
      rw [foldDec, if_pos this.1, foldDec, this.2]
      congr 1
      omega
    · rw [dif_neg c]
      have hd := dig_isd (n % 10) (by omega)
      rw [foldDec_append _ _ hd.1 0 (n / 10) (ih _ (by omega)), hd.2]
      congr 1
      omega
theorem decDigits_len4 (n : Nat) (h : n < 10000) : (Lib.decDigits n).length ≤ 4 := by
  have l1 : ∀ m, m < 10 → (Lib.decDigits m).length = 1 := by
    intro m hm
    rw [Lib.decDigits, dif_pos hm]; rfl
  have st : ∀ m k, (∀ q, q < 10 ^ k → (Lib.decDigits q).length ≤ k) → 1 ≤ k → m < 10 ^ (k + 1) → (Lib.decDigits m).length ≤ k + 1 := by
    intro m k hq hk hm
    by_cases c : m < 10
    · rw [l1 m c]; omega
    · rw [Lib.decDigits, dif_neg c]
      have := hq (m / 10) (by rw [Nat.pow_succ] at hm; omega)
      simp
      omega
  have h1 : ∀ q, q < 10 ^ 1 → (Lib.decDigits q).length ≤ 1 := fun q hq => by rw [l1 q (by simpa using hq)]; omega
  have h2 : ∀ q, q < 10 ^ 2 → (Lib.decDigits q).length ≤ 2 := fun q hq => st q 1 h1 (by omega) hq
  have h3 : ∀ q, q < 10 ^ 3 → (Lib.decDigits q).length ≤ 3 := fun q hq => st q 2 h2 (by omega) hq
  exact st n 3 h3 (by omega) h

theorem reS_exp (E : Int) (h0 : -1074 ≤ E) (h1 : E ≤ 1023) : reS (expL E) = (E, true) := by
  unfold expL
  by_cases c : E < 0
  · rw [if_pos c]
    have hl := decDigits_len4 E.natAbs (by omega)
    simp only [reS]
    rw [if_neg (by omega), foldDec_digits]
    have e := expOf_neg 45 E.natAbs rfl
    rw [e.1, e.2, decide_eq_true (by omega)]
    congr 1
    omega
  · rw [if_neg c]
    have hl := decDigits_len4 E.toNat (by omega)
    simp only [reS]
    rw [if_neg (by omega), foldDec_digits]
    have e := expOf_pos 43 E.toNat rfl
    rw [e.1, e.2, decide_eq_true (by omega)]
    congr 1
    omega

theorem indexByte_append (l r : List UInt8) (c : UInt8) (h : ∀ x ∈ l, (x == c) = false) : Lib.indexByte (l ++ c :: r) c = l.length := by
  induction l with
  | nil => simp [Lib.indexByte]
  | cons x l ih =>
    rw [List.cons_append, Lib.indexByte, if_neg (by rw [h x (by simp)]; simp), ih (fun y hy => h y (by simp [hy]))]
    rw [if_neg (by simp)]
    simp
theorem hexdig_ne (d : Nat) (h : d < 16) : (hexdig d == 112) = false := by
  have : d = 0 ∨ d = 1 ∨ d = 2 ∨ d = 3 ∨ d = 4 ∨ d = 5 ∨ d = 6 ∨ d = 7 ∨ d = 8 ∨ d = 9 ∨ d = 10 ∨ d = 11 ∨ d = 12 ∨ d = 13 ∨ d = 14 ∨ d = 15 := by omega
  rcases this with rfl | rfl | rfl | rfl | rfl | rfl | rfl | rfl | rfl | rfl | rfl | rfl | rfl | rfl | rfl | rfl <;> decide
theorem hexF_ne (k : Nat) : ∀ f, f < 4503599627370496 → ∀ x ∈ hexF k f, (x == 112) = false := by
  induction k with
  | zero => intro f _ x hx; simp [hexF] at hx
  | succ k ih =>
    intro f hf x hx
    unfold hexF at hx
    split at hx
    · simp at hx
    · rcases List.mem_cons.1 hx with rfl | hx
      · exact hexdig_ne _ (by omega)
      · exact ih _ (by omega) x hx
theorem fracL_ne (F : Nat) (hF : F < 4503599627370496) : ∀ x ∈ fracL F, (x == 112) = false := by
  intro x hx
  unfold fracL at hx
  split at hx
  · simp at hx
  · rcases List.mem_cons.1 hx with rfl | hx
    · decide
    · exact hexF_ne 13 F hF x hx
theorem cut_text (F : Nat) (hF : F < 4503599627370496) (r : List UInt8) : cut1 (fracL F ++ 112 :: r) 112 = (fracL F, r, true) := by
  unfold cut1
  rw [indexByte_append _ _ _ (fracL_ne F hF), if_pos (by omega), Int.toNat_natCast]
  simp

/-- The parts of a number give it back. -/
theorem join_back (a : Int) (ha : U a) (h : classS a = 4 ∨ classS a = 5) :
    -1074 ≤ partE a - shf (partM a).toNat + 52 ∧ partE a - shf (partM a).toNat + 52 ≤ 1023 ∧ (joinS (nrm (partM a).toNat % 4503599627370496) (partE a - shf (partM a).toNat + 52) : Int) = a % 9223372036854775808 := by
  have hcp := class_parts a ha
  obtain ⟨h0, h1⟩ := ha
  rcases hcp with e | e | e | ⟨_, m1, m2, e1, e2⟩
  · omega
  · omega
  · omega
  obtain ⟨b1, b2, b3, b4⟩ := nrm_bounds (partM a).toNat (by omega) (by omega)
  rcases h with e | e
  · have em : partM a = a % 4503599627370496 := by simp [partM, e]
    have ee : partE a = -1074 := by simp [partE, e]
    have hR : a % 9223372036854775808 < 4503599627370496 ∧ a % 9223372036854775808 ≠ 0 := by
      unfold classS at e
      revert e
      repeat' split
      all_goals omega
    have hmR : partM a = a % 9223372036854775808 := by omega
    have hbl : Lib.bitLen (partM a).toNat ≤ 52 := by
      apply Classical.byContradiction
      intro hc
      have h53 : Lib.bitLen (partM a).toNat = 53 := by omega
      have hs0 : shf (partM a).toNat = 0 := by unfold shf; omega
      have : nrm (partM a).toNat = (partM a).toNat := by unfold nrm; rw [hs0, Nat.pow_zero, Nat.mul_one]
      omega
    have hS : 1 ≤ shf (partM a).toNat ∧ shf (partM a).toNat ≤ 52 := by unfold shf; omega
    refine ⟨by omega, by omega, ?_⟩
    unfold joinS
    rw [if_pos (by omega), show 4503599627370496 + nrm (partM a).toNat % 4503599627370496 = nrm (partM a).toNat by omega]
    have : (-1022 - (partE a - (shf (partM a).toNat : Int) + 52)).toNat = shf (partM a).toNat := by omega
    rw [this]
    unfold nrm
    rw [Nat.mul_div_cancel _ (Nat.two_pow_pos _)]
    omega
  · have em : partM a = a % 4503599627370496 + 4503599627370496 := by simp [partM, e]
    have ee : partE a = a / 4503599627370496 % 2048 - 1075 := by simp [partE, e]
    have hR : a % 9223372036854775808 < 9218868437227405312 ∧ 4503599627370496 ≤ a % 9223372036854775808 := by
      unfold classS at e
      revert e
      repeat' split
      all_goals omega
    have hbl : Lib.bitLen (partM a).toNat = 53 := by
      apply Classical.byContradiction
      intro hc
      have hS : 1 ≤ shf (partM a).toNat := by unfold shf; omega
      have : (partM a).toNat * 2 ≤ nrm (partM a).toNat := by
        unfold nrm
        exact Nat.mul_le_mul_left _ (by
          have := Nat.pow_le_pow_right (show 0 < 2 by decide) hS
          simpa using this)
      omega
    have hs0 : shf (partM a).toNat = 0 := by unfold shf; omega
    have hn : nrm (partM a).toNat = (partM a).toNat := by unfold nrm; rw [hs0, Nat.pow_zero, Nat.mul_one]
    refine ⟨by omega, by omega, ?_⟩
    unfold joinS
    rw [if_neg (by omega), hn, hs0]
    omega

theorem sizeL_great (a : Int) (h : classS a = 4 ∨ classS a = 5) : sizeL (classS a) (partM a).toNat (partE a) = [48, 120, 49] ++ (fracL (nrm (partM a).toNat % 4503599627370496) ++ 112 :: expL (partE a - shf (partM a).toNat + 52)) := by
  unfold sizeL
  rw [if_neg (by omega), if_neg (by omega), if_neg (by omega)]
  simp

/-- The size's text is read as the size. -/
theorem rs_text (a : Int) (ha : U a) : rsS (sizeL (classS a) (partM a).toNat (partE a)) = (if nan a then 9221120237041090561 else a % 9223372036854775808, true) := by
  have hcn := class_nan a
  rcases class_cases a with e | e | e | e | e
  · rw [hcn.1 e, e]; rfl
  · have hn : nan a = false := by cases h : nan a <;> simp_all
    have hr : a % 9223372036854775808 = 9218868437227405312 := by
      unfold classS at e
      revert e
      repeat' split
      all_goals omega
    rw [hn, e, hr]; rfl
  · have hn : nan a = false := by cases h : nan a <;> simp_all
    have hr : a % 9223372036854775808 = 0 := by
      unfold classS at e
      revert e
      repeat' split
      all_goals omega
    rw [hn, e, hr]; rfl
  all_goals
    have hn : nan a = false := by cases h : nan a <;> simp_all
    have hg : classS a = 4 ∨ classS a = 5 := by omega
    obtain ⟨j1, j2, j3⟩ := join_back a ha hg
    rw [sizeL_great a hg, hn]
    have hF : nrm (partM a).toNat % 4503599627370496 < 4503599627370496 := Nat.mod_lt _ (by decide)
    generalize nrm (partM a).toNat % 4503599627370496 = F at *
    generalize partE a - (shf (partM a).toNat : Int) + 52 = E at *
    unfold rsS
    have e1 : Lib.trimPrefix ([48, 120, 49] ++ (fracL F ++ 112 :: expL E)) [48, 120, 49] = fracL F ++ 112 :: expL E := by simp [Lib.trimPrefix, Lib.hasPrefix]
    have e2 : Lib.hasPrefix ([48, 120, 49] ++ (fracL F ++ 112 :: expL E)) [48, 120, 49] = true := by simp [Lib.hasPrefix]
    rw [e1, e2, cut_text F hF, rfS_frac F hF, reS_exp E j1 j2]
    rw [if_neg (by simp), if_neg (by simp), if_neg (by simp), if_neg (by simp), if_neg (by simp)]
    simp only [j3, Bool.false_eq_true, if_false]

theorem text_canon (a : Int) (ha : U a) : textS (canonS a) = textS a := by
  cases h : nan a
  · rw [canon_self a h]
  · have e : canonS a = 9221120237041090561 := by simp [canonS, h]
    have hc := (class_nan a).2 h
    have hp : partN a = false := by simp [partN, hc]
    have hs : textS a = sizeL 1 (partM a).toNat (partE a) := by simp [textS, hc, hp]
    rw [e, hs]
    rfl

theorem parse_text (a : Int) (ha : U a) : parseS (textS a) = (canonS a, 0) := by
  have hr := rs_text a ha
  have key : Lib.trimPrefix (textS a) [45] = sizeL (classS a) (partM a).toNat (partE a) ∧ Lib.hasPrefix (textS a) [45] = partN a := by
    have hne : Lib.hasPrefix (sizeL (classS a) (partM a).toNat (partE a)) [45] = false := by
      unfold sizeL Lib.hasPrefix
      repeat' split
      all_goals first | rfl | simp
    unfold textS
    cases partN a
    · simp only [Bool.false_eq_true, if_false, List.nil_append]
      exact ⟨by unfold Lib.trimPrefix; rw [hne]; simp, hne⟩
    · simp [Lib.trimPrefix, Lib.hasPrefix]
  have hsg : signed_ (partN a) (if nan a then 9221120237041090561 else a % 9223372036854775808) = canonS a := by
    obtain ⟨h0, h1⟩ := ha
    cases hn : nan a
    · have hc : ¬ classS a = 1 := by rw [class_nan]; simp [hn]
      have hp : partN a = decide (9223372036854775808 ≤ a) := by simp [partN, hc]
      have hn' := hn
      simp only [nan, decide_eq_false_iff_not] at hn'
      rw [canon_self a hn, hp]
      simp only [Bool.false_eq_true, if_false]
      unfold signed_
      by_cases c : 9223372036854775808 ≤ a
      · rw [decide_eq_true c]
        simp only [if_true]
        have hm : nan (a % 9223372036854775808) = false := by simp only [nan, decide_eq_false_iff_not]; omega
        unfold negS
        rw [hm]
        simp only [Bool.false_eq_true, if_false]
        rw [if_neg (by omega)]
        omega
      · rw [decide_eq_false c]
        simp only [Bool.false_eq_true, if_false]
        omega
    · have hc := (class_nan a).2 hn
      have hp : partN a = false := by simp [partN, hc]
      rw [hp]
      simp [signed_, canonS, hn]
  unfold parseS
  rw [key.1, key.2, hr]
  simp only
  rw [hsg, text_canon a ha]
  simp
end Go.Proofs.YtoiglopilpoafaaGreatDoor.F

namespace Go.Proofs.YtoiglopilpoafaaGreatDoor.Ty
open Go.RowKit
set_option linter.unusedSimpArgs false
set_option linter.unusedVariables false

theorem itoa_inj {a b : Int} (h : Lib.itoa a = Lib.itoa b) : a = b := by
  obtain ⟨a1, a2, a3, _⟩ := D.dec_facts a.natAbs
  obtain ⟨b1, b2, b3, _⟩ := D.dec_facts b.natAbs
  have hno : ∀ (n : Nat) (l : List UInt8), (Lib.decDigits n).all D.isd = true → 45 :: l = Lib.decDigits n → False := by
    intro n l h1 h2
    rw [← h2] at h1
    simp [D.isd] at h1
  unfold Lib.itoa at h
  by_cases ha : a < 0
  · by_cases hb : b < 0
    · rw [if_pos ha, if_pos hb] at h
      have : Lib.decDigits a.natAbs = Lib.decDigits b.natAbs := by simpa using h
      rw [this, b2] at a2
      omega
    · rw [if_pos ha, if_neg hb] at h
      rw [show b.toNat = b.natAbs by omega] at h
      exact (hno _ _ b1 h).elim
  · by_cases hb : b < 0
    · rw [if_neg ha, if_pos hb] at h
      rw [show a.toNat = a.natAbs by omega] at h
      exact (hno _ _ a1 h.symm).elim
    · rw [if_neg ha, if_neg hb] at h
      rw [show a.toNat = a.natAbs by omega, show b.toNat = b.natAbs by omega] at h
      rw [h, b2] at a2
      omega
theorem showS_inj {t a b : Int} (ha : U64 a) (hb : U64 b) (ra : rightV t a = true) (rb : rightV t b = true) (h : showS t a = showS t b) : a = b := by
  unfold showS at h
  unfold rightV at ra rb
  by_cases h1 : t = 1
  · rw [if_pos h1, if_pos h1] at h
    have := itoa_inj h
    unfold wrap64 at this
    obtain ⟨_, _⟩ := ha
    obtain ⟨_, _⟩ := hb
    omega
  rw [if_neg h1] at h ra rb
  rw [if_neg h1] at h
  by_cases h2 : t = 2
  · rw [if_pos h2] at ra rb h
    rw [if_pos h2] at h
    have e1 := F.parse_text a ⟨ha.1, ha.2⟩
    have e2 := F.parse_text b ⟨hb.1, hb.2⟩
    rw [h, e2] at e1
    have := congrArg Prod.fst e1
    simp only [beq_iff_eq] at ra rb
    simp only at this
    rw [ra, rb] at this
    exact this.symm
  rw [if_neg h2] at h ra rb
  rw [if_neg h2] at h
  by_cases h3 : t = 3
  · rw [if_pos h3] at ra rb h
    rw [if_pos h3] at h
    simp only [decide_eq_true_eq] at ra rb
    have := ha.1
    have := hb.1
    unfold truthS at h
    by_cases a0 : a = 0
    · by_cases b0 : b = 0
      · omega
      · rw [if_pos a0, if_neg b0] at h; simp at h
    · by_cases b0 : b = 0
      · rw [if_neg a0, if_pos b0] at h; simp at h
      · omega
  · rw [if_neg h3] at ra; cases ra
theorem split_at (p : UInt8 → Bool) : ∀ (a b : Bs) (c d : UInt8) (x y : Bs), a.all p = true → b.all p = true → p c = false → p d = false → a ++ c :: x = b ++ d :: y → a = b ∧ c = d ∧ x = y
  | [], [], c, d, x, y, _, _, _, _, h => by
    simp only [List.nil_append, List.cons.injEq] at h
    exact ⟨rfl, h.1, h.2⟩
  | [], e :: b, c, d, x, y, _, hb, hc, _, h => by
    simp only [List.nil_append, List.cons_append, List.cons.injEq] at h
    simp only [List.all_cons, Bool.and_eq_true] at hb
    rw [h.1, hb.1] at hc
    cases hc
  | e :: a, [], c, d, x, y, ha, _, _, hd, h => by
    simp only [List.nil_append, List.cons_append, List.cons.injEq] at h
    simp only [List.all_cons, Bool.and_eq_true] at ha
    rw [← h.1, ha.1] at hd
    cases hd
  | e :: a, f :: b, c, d, x, y, ha, hb, hc, hd, h => by
    simp only [List.cons_append, List.cons.injEq] at h
    simp only [List.all_cons, Bool.and_eq_true] at ha hb
    obtain ⟨h1, h2, h3⟩ := split_at p a b c d x y ha.2 hb.2 hc hd h.2
    exact ⟨by rw [h.1, h1], h2, h3⟩
theorem name_ld {s : Bs} (h : N.rightS s = 0) : s.all N.ld = true := by
  unfold N.rightS at h
  cases hs : N.speltS s
  · rw [hs] at h; simp at h
  · cases s with
    | nil => rfl
    | cons c r =>
      rw [N.spelt_cons (c :: r) c rfl, Bool.and_eq_true] at hs
      exact hs.2
theorem nameS_ld (t : Int) : (nameS t).all N.ld = true := by
  unfold nameS
  split
  · decide
  · split
    · decide
    · split <;> decide
theorem nameS_inj {t u : Int} (ht : valued t = true) (hu : valued u = true) (h : nameS t = nameS u) : t = u := by
  rw [valued_iff] at ht hu
  rcases ht with rfl | rfl | rfl <;> rcases hu with rfl | rfl | rfl <;> first | rfl | (exact absurd h (by decide))
theorem nameS_head {t : Int} (ht : valued t = true) : ∃ c r, nameS t = c :: r ∧ N.ld c = true := by
  rw [valued_iff] at ht
  rcases ht with rfl | rfl | rfl
  · exact ⟨105, [110, 116], rfl, by decide⟩
  · exact ⟨102, [108, 111, 97, 116], rfl, by decide⟩
  · exact ⟨98, [111, 111, 108], rfl, by decide⟩
theorem ld41 : N.ld 41 = false := by decide
theorem ld44 : N.ld 44 = false := by decide
theorem paramsS_cons2 (t u : Int) (r : List Int) : paramsS (t :: u :: r) = nameS t ++ 44 :: 32 :: paramsS (u :: r) := by
  simp [paramsS, joinS]
theorem paramsS_one (t : Int) : paramsS [t] = nameS t := by simp [paramsS, joinS]
theorem paramsS_inj : ∀ (l m : List Int) (x y : Bs), l.all valued = true → m.all valued = true → paramsS l ++ 41 :: x = paramsS m ++ 41 :: y → l = m ∧ x = y
  | [], [], x, y, _, _, h => by
    simp only [paramsS, joinS, List.map_nil, List.nil_append, List.cons.injEq, true_and] at h
    exact ⟨rfl, h⟩
  | [], u :: m, x, y, _, hm, h => by
    exfalso
    simp only [List.all_cons, Bool.and_eq_true] at hm
    obtain ⟨c, r, e, hc⟩ := nameS_head hm.1
    have : ∃ z, paramsS (u :: m) = c :: z := by
      cases m with
      | nil => exact ⟨r, by rw [paramsS_one, e]⟩
      | cons v m => exact ⟨_, by rw [paramsS_cons2, e]; rfl⟩
    obtain ⟨z, hz⟩ := this
    rw [hz] at h
    simp only [paramsS, joinS, List.map_nil, List.nil_append, List.cons_append, List.cons.injEq] at h
    rw [← h.1, ld41] at hc
    cases hc
  | t :: l, [], x, y, hl, _, h => by
    exfalso
    simp only [List.all_cons, Bool.and_eq_true] at hl
    obtain ⟨c, r, e, hc⟩ := nameS_head hl.1
    have : ∃ z, paramsS (t :: l) = c :: z := by
      cases l with
      | nil => exact ⟨r, by rw [paramsS_one, e]⟩
      | cons v m => exact ⟨_, by rw [paramsS_cons2, e]; rfl⟩
    obtain ⟨z, hz⟩ := this
    rw [hz] at h
    simp only [paramsS, joinS, List.map_nil, List.nil_append, List.cons_append, List.cons.injEq] at h
    rw [h.1, ld41] at hc
    cases hc
  | [t], [u], x, y, hl, hm, h => by
    simp only [List.all_cons, Bool.and_eq_true] at hl hm
    rw [paramsS_one, paramsS_one] at h
    obtain ⟨h1, _, h3⟩ := split_at N.ld _ _ _ _ _ _ (nameS_ld t) (nameS_ld u) ld41 ld41 h
    exact ⟨by rw [nameS_inj hl.1 hm.1 h1], h3⟩
  | [t], u :: v :: m, x, y, hl, hm, h => by
    exfalso
    rw [paramsS_one, paramsS_cons2, List.append_assoc, List.cons_append] at h
    obtain ⟨_, h2, _⟩ := split_at N.ld _ _ _ _ _ _ (nameS_ld t) (nameS_ld u) ld41 ld44 h
    exact absurd h2 (by decide)
  | t :: s :: l, [u], x, y, hl, hm, h => by
    exfalso
    rw [paramsS_one, paramsS_cons2, List.append_assoc, List.cons_append] at h
    obtain ⟨_, h2, _⟩ := split_at N.ld _ _ _ _ _ _ (nameS_ld t) (nameS_ld u) ld44 ld41 h
    exact absurd h2 (by decide)
  | t :: s :: l, u :: v :: m, x, y, hl, hm, h => by
    rw [paramsS_cons2, paramsS_cons2, List.append_assoc, List.append_assoc, List.cons_append, List.cons_append] at h
    obtain ⟨h1, _, h3⟩ := split_at N.ld _ _ _ _ _ _ (nameS_ld t) (nameS_ld u) ld44 ld44 h
    have h3' : paramsS (s :: l) ++ 41 :: x = paramsS (v :: m) ++ 41 :: y := by simpa using h3
    rw [List.all_cons, Bool.and_eq_true] at hl hm
    obtain ⟨h4, h5⟩ := paramsS_inj (s :: l) (v :: m) x y hl.2 hm.2 h3'
    exact ⟨by rw [nameS_inj hl.1 hm.1 h1, h4], h5⟩
theorem resultS_inj {t u : Int} (ht : t = 0 ∨ valued t = true) (hu : u = 0 ∨ valued u = true) (h : resultS t = resultS u) : t = u := by
  rw [valued_iff] at ht hu
  rcases ht with rfl | rfl | rfl | rfl <;> rcases hu with rfl | rfl | rfl | rfl <;> first | rfl | (exact absurd h (by decide))
/-- What a right item is. -/
theorem rightI_parts {i : It} (h : rightI i = 0) : N.rightS i.name = 0 ∧ i.params.length ≤ 8 ∧ ((i.kind = 1 ∧ rightV i.typ i.bits = true ∧ i.params = []) ∨ (i.kind = 3 ∧ (i.typ = 0 ∨ valued i.typ = true) ∧ i.bits = 0 ∧ i.params.all valued = true)) := by
  unfold rightI at h
  by_cases hk : i.kind ≠ 1 ∧ i.kind ≠ 3
  · rw [if_pos hk] at h; cases h
  rw [if_neg hk] at h
  by_cases hn : N.rightS i.name = 0
  · rw [if_neg (by simp [hn])] at h
    by_cases h8 : 8 < i.params.length
    · rw [if_pos h8] at h; cases h
    rw [if_neg h8] at h
    refine ⟨hn, by omega, ?_⟩
    by_cases h1 : i.kind = 1
    · rw [if_pos h1] at h
      left
      by_cases hf : fitsConst i = true
      · unfold fitsConst at hf
        simp only [Bool.and_eq_true, decide_eq_true_eq] at hf
        exact ⟨h1, hf.1, List.eq_nil_of_length_eq_zero hf.2⟩
      · rw [if_neg hf] at h; cases h
    · rw [if_neg h1] at h
      right
      by_cases hf : fitsFn i = true
      · unfold fitsFn at hf
        simp only [Bool.and_eq_true, Bool.or_eq_true, beq_iff_eq] at hf
        exact ⟨by omega, hf.1.1, hf.1.2, hf.2⟩
      · rw [if_neg hf] at h; cases h
  · rw [if_pos hn] at h
    exact absurd h hn
theorem rightV_valued {t b : Int} (h : rightV t b = true) : valued t = true := by
  rw [valued_iff]
  unfold rightV at h
  by_cases h1 : t = 1
  · exact Or.inl h1
  by_cases h2 : t = 2
  · exact Or.inr (Or.inl h2)
  by_cases h3 : t = 3
  · exact Or.inr (Or.inr h3)
  rw [if_neg h1, if_neg h2, if_neg h3] at h
  cases h
theorem textI_inj {i j : It} (hi : rightI i = 0) (hj : rightI j = 0) (oi : U64 i.bits) (oj : U64 j.bits) (h : textI i = textI j) : i = j := by
  obtain ⟨n1, _, p1⟩ := rightI_parts hi
  obtain ⟨n2, _, p2⟩ := rightI_parts hj
  have l1 := name_ld n1
  have l2 := name_ld n2
  obtain ⟨k1, nm1, t1, b1, ps1⟩ := i
  obtain ⟨k2, nm2, t2, b2, ps2⟩ := j
  simp only at *
  unfold textI at h
  simp only at h
  rcases p1 with ⟨rfl, r1, rfl⟩ | ⟨rfl, r1, rfl, v1⟩
  · rcases p2 with ⟨rfl, r2, rfl⟩ | ⟨rfl, r2, rfl, v2⟩
    · rw [if_pos rfl, if_pos rfl] at h
      simp only [List.append_assoc, List.append_cancel_left_eq] at h
      simp only [List.cons_append, List.nil_append] at h
      obtain ⟨h1, _, h2⟩ := split_at N.ld _ _ _ _ _ _ l1 l2 (by decide) (by decide) h
      simp only [List.cons.injEq, true_and] at h2
      obtain ⟨h3, _, h4⟩ := split_at N.ld _ _ _ _ _ _ (nameS_ld t1) (nameS_ld t2) (by decide) (by decide) h2
      simp only [List.cons.injEq, true_and] at h4
      obtain rfl := nameS_inj (rightV_valued r1) (rightV_valued r2) h3
      obtain rfl := showS_inj oi oj r1 r2 h4
      rw [h1]
    · rw [if_pos rfl, if_neg (by decide), if_pos rfl] at h
      simp at h
  · rcases p2 with ⟨rfl, r2, rfl⟩ | ⟨rfl, r2, rfl, v2⟩
    · rw [if_neg (by decide), if_pos rfl, if_pos rfl] at h
      simp at h
    · rw [if_neg (by decide), if_pos rfl, if_neg (by decide), if_pos rfl] at h
      simp only [List.append_assoc, List.append_cancel_left_eq] at h
      simp only [List.cons_append, List.nil_append] at h
      obtain ⟨h1, _, h2⟩ := split_at N.ld _ _ _ _ _ _ l1 l2 (by decide) (by decide) h
      obtain ⟨h3, h4⟩ := paramsS_inj _ _ _ _ v1 v2 h2
      obtain rfl := resultS_inj r1 r2 h4
      rw [h1, h3]
theorem textI_iff {i j : It} (hi : rightI i = 0) (hj : rightI j = 0) (oi : U64 i.bits) (oj : U64 j.bits) : (textI i == textI j) = decide (i = j) := by
  rw [Bool.eq_iff_iff, beq_iff_eq, decide_eq_true_eq]
  exact ⟨textI_inj hi hj oi oj, fun e => by rw [e]⟩
end Go.Proofs.YtoiglopilpoafaaGreatDoor.Ty
