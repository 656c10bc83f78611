/- FxB -/
import Derived.Test.YteijjaabngkbjaaGreatDoorFxA
import Derived.Deep.DeepCutAuto
import Derived.Laws.RangeString
namespace Go.Proofs.YteijjaabngkbjaaGreatDoor.F
open Go.RowKit Fl
set_option linter.unusedSimpArgs false
set_option linter.unusedVariables false
theorem hexF_fold (k : Nat) : ∀ (f acc : Nat), k ≤ 13 → f < 4503599627370496 → f % 16 ^ (13 - k) = 0 →
    foldHex (hexF k f) acc = some (acc * 16 ^ (hexF k f).length + f / 16 ^ (13 - (hexF k f).length)) ∧ f % 16 ^ (13 - (hexF k f).length) = 0 ∧ (hexF k f).length ≤ k := by
  induction k with
  | zero =>
    intro f acc _ hf h
    have h' : f % 4503599627370496 = 0 := h
    have hz : f = 0 := by omega
    subst hz
    simp [hexF, foldHex]
  | succ k ih =>
    intro f acc hk hf h
    unfold hexF
    by_cases hz : f = 0
    · subst hz; simp [foldHex]
    · rw [if_neg hz]
      have hd : f / 281474976710656 < 16 := by omega
      have hx := hix_dig _ hd
      have hf' : f % 281474976710656 * 16 < 4503599627370496 := by omega
      have hm : (f % 281474976710656 * 16) % 16 ^ (13 - k) = 0 := by
        have : k = 0 ∨ k = 1 ∨ k = 2 ∨ k = 3 ∨ k = 4 ∨ k = 5 ∨ k = 6 ∨ k = 7 ∨ k = 8 ∨ k = 9 ∨ k = 10 ∨ k = 11 ∨ k = 12 := by omega
        rcases this with rfl | rfl | rfl | rfl | rfl | rfl | rfl | rfl | rfl | rfl | rfl | rfl | rfl <;> simp at h ⊢ <;> omega
      obtain ⟨i1, i2, i3⟩ := ih (f % 281474976710656 * 16) (acc * 16 + f / 281474976710656) (by omega) hf' hm
      rw [foldHex, if_neg (by rw [hx]; omega), hx, Int.toNat_natCast, i1]
      rw [List.length_cons]
      generalize (hexF k (f % 281474976710656 * 16)).length = j at *
      have hj : j = 0 ∨ j = 1 ∨ j = 2 ∨ j = 3 ∨ j = 4 ∨ j = 5 ∨ j = 6 ∨ j = 7 ∨ j = 8 ∨ j = 9 ∨ j = 10 ∨ j = 11 ∨ j = 12 := by omega
      refine ⟨?_, ?_, by omega⟩
      · congr 1
        rcases hj with rfl | rfl | rfl | rfl | rfl | rfl | rfl | rfl | rfl | rfl | rfl | rfl | rfl <;> simp at i2 ⊢ <;> omega
      · rcases hj with rfl | rfl | rfl | rfl | rfl | rfl | rfl | rfl | rfl | rfl | rfl | rfl | rfl <;> simp at i2 ⊢ <;> omega
theorem rfS_frac (F : Nat) (hF : F < 4503599627370496) : rfS (fracL F) = (F, true) := by
  unfold fracL
  by_cases h : F = 0
  · subst h; rfl
  · rw [if_neg h]
    obtain ⟨i1, i2, i3⟩ := hexF_fold 13 F 0 (by omega) hF (by rw [Nat.sub_self, Nat.pow_zero, Nat.mod_one])
    unfold rfS
    have e1 : Lib.trimPrefix (46 :: hexF 13 F) [46] = hexF 13 F := by simp [Lib.trimPrefix, Lib.hasPrefix]
    have e2 : Lib.hasPrefix (46 :: hexF 13 F) [46] = true := by simp [Lib.hasPrefix]
    rw [e1, e2]
    rw [if_neg (by simp), if_neg (by simp; omega), i1]
    simp only [outF, Option.isSome_some, Nat.zero_mul, Nat.zero_add]
    generalize (hexF 13 F).length = j at *
    have hj : j = 0 ∨ j = 1 ∨ j = 2 ∨ j = 3 ∨ j = 4 ∨ j = 5 ∨ j = 6 ∨ j = 7 ∨ j = 8 ∨ j = 9 ∨ j = 10 ∨ j = 11 ∨ j = 12 ∨ j = 13 := by omega
    congr 1
    exact Nat.div_mul_cancel (Nat.dvd_of_mod_eq_zero i2)
theorem foldDec_append (xs : List UInt8) (d : UInt8) (hd : isd d = true) : ∀ (acc r : Nat), foldDec xs acc = some r → foldDec (xs ++ [d]) acc = some (r * 10 + (d.toNat - 48)) := by
  induction xs with
  | nil => intro acc r h; cases h; simp [foldDec, hd]
  | cons x xs ih =>
    intro acc r h
    rw [foldDec] at h
    rw [List.cons_append, foldDec]
    split at h
    · rename_i hx
      rw [if_pos hx]
      exact ih _ _ h
    · cases h
theorem dig_isd (d : Nat) (h : d < 10) : isd (UInt8.ofNat (48 + d)) = true ∧ (UInt8.ofNat (48 + d)).toNat = 48 + d := by
  have e : (UInt8.ofNat (48 + d)).toNat = 48 + d := by rw [UInt8.toNat_ofNat']; omega
  exact ⟨by simp only [isd, e]; simp; omega, e⟩
theorem foldDec_digits (n : Nat) : foldDec (Lib.decDigits n) 0 = some n := by
  induction n using Nat.strongRecOn with
  | _ n ih =>
    rw [Lib.decDigits]
    by_cases c : n < 10
    · rw [dif_pos c]
      have := dig_isd n c
      rw [foldDec, if_pos this.1, foldDec, this.2]
      congr 1
      omega
    · rw [dif_neg c]
      have hd := dig_isd (n % 10) (by omega)
      rw [foldDec_append _ _ hd.1 0 (n / 10) (ih _ (by omega)), hd.2]
      congr 1
      omega
theorem decDigits_len4 (n : Nat) (h : n < 10000) : (Lib.decDigits n).length ≤ 4 := by
  have l1 : ∀ m, m < 10 → (Lib.decDigits m).length = 1 := by
    intro m hm
    rw [Lib.decDigits, dif_pos hm]; rfl
  have st : ∀ m k, (∀ q, q < 10 ^ k → (Lib.decDigits q).length ≤ k) → 1 ≤ k → m < 10 ^ (k + 1) → (Lib.decDigits m).length ≤ k + 1 := by
    intro m k hq hk hm
    by_cases c : m < 10
    · rw [l1 m c]; omega
    · rw [Lib.decDigits, dif_neg c]
      have := hq (m / 10) (by rw [Nat.pow_succ] at hm; omega)
      simp
      omega
  have h1 : ∀ q, q < 10 ^ 1 → (Lib.decDigits q).length ≤ 1 := fun q hq => by rw [l1 q (by simpa using hq)]; omega
  have h2 : ∀ q, q < 10 ^ 2 → (Lib.decDigits q).length ≤ 2 := fun q hq => st q 1 h1 (by omega) hq
  have h3 : ∀ q, q < 10 ^ 3 → (Lib.decDigits q).length ≤ 3 := fun q hq => st q 2 h2 (by omega) hq
  exact st n 3 h3 (by omega) h
theorem reS_exp (E : Int) (h0 : -1074 ≤ E) (h1 : E ≤ 1023) : reS (expL E) = (E, true) := by
  unfold expL
  by_cases c : E < 0
  · rw [if_pos c]
    have hl := decDigits_len4 E.natAbs (by omega)
    simp only [reS]
    rw [if_neg (by omega), foldDec_digits]
    have e := expOf_neg 45 E.natAbs rfl
    rw [e.1, e.2, decide_eq_true (by omega)]
    congr 1
    omega
  · rw [if_neg c]
    have hl := decDigits_len4 E.toNat (by omega)
    simp only [reS]
    rw [if_neg (by omega), foldDec_digits]
    have e := expOf_pos 43 E.toNat rfl
    rw [e.1, e.2, decide_eq_true (by omega)]
    congr 1
    omega
theorem indexByte_append (l r : List UInt8) (c : UInt8) (h : ∀ x ∈ l, (x == c) = false) : Lib.indexByte (l ++ c :: r) c = l.length := by
  induction l with
  | nil => simp [Lib.indexByte]
  | cons x l ih =>
    rw [List.cons_append, Lib.indexByte, if_neg (by rw [h x (by simp)]; simp), ih (fun y hy => h y (by simp [hy]))]
    rw [if_neg (by simp)]
    simp
theorem hexdig_ne (d : Nat) (h : d < 16) : (hexdig d == 112) = false := by
  have : d = 0 ∨ d = 1 ∨ d = 2 ∨ d = 3 ∨ d = 4 ∨ d = 5 ∨ d = 6 ∨ d = 7 ∨ d = 8 ∨ d = 9 ∨ d = 10 ∨ d = 11 ∨ d = 12 ∨ d = 13 ∨ d = 14 ∨ d = 15 := by omega
  rcases this with rfl | rfl | rfl | rfl | rfl | rfl | rfl | rfl | rfl | rfl | rfl | rfl | rfl | rfl | rfl | rfl <;> decide
theorem hexF_ne (k : Nat) : ∀ f, f < 4503599627370496 → ∀ x ∈ hexF k f, (x == 112) = false := by
  induction k with
  | zero => intro f _ x hx; simp [hexF] at hx
  | succ k ih =>
    intro f hf x hx
    unfold hexF at hx
    split at hx
    · simp at hx
    · rcases List.mem_cons.1 hx with rfl | hx
      · exact hexdig_ne _ (by omega)
      · exact ih _ (by omega) x hx
theorem fracL_ne (F : Nat) (hF : F < 4503599627370496) : ∀ x ∈ fracL F, (x == 112) = false := by
  intro x hx
  unfold fracL at hx
  split at hx
  · simp at hx
  · rcases List.mem_cons.1 hx with rfl | hx
    · decide
    · exact hexF_ne 13 F hF x hx
theorem cut_text (F : Nat) (hF : F < 4503599627370496) (r : List UInt8) : cut1 (fracL F ++ 112 :: r) 112 = (fracL F, r, true) := by
  unfold cut1
  rw [indexByte_append _ _ _ (fracL_ne F hF), if_pos (by omega), Int.toNat_natCast]
  simp
theorem join_back (a : Int) (ha : U a) (h : classS a = 4 ∨ classS a = 5) :
    -1074 ≤ partE a - shf (partM a).toNat + 52 ∧ partE a - shf (partM a).toNat + 52 ≤ 1023 ∧ (joinS (nrm (partM a).toNat % 4503599627370496) (partE a - shf (partM a).toNat + 52) : Int) = a % 9223372036854775808 := by
  have hcp := class_parts a ha
  obtain ⟨h0, h1⟩ := ha
  rcases hcp with e | e | e | ⟨_, m1, m2, e1, e2⟩
  · omega
  · omega
  · omega
  obtain ⟨b1, b2, b3, b4⟩ := nrm_bounds (partM a).toNat (by omega) (by omega)
  rcases h with e | e
  · have em : partM a = a % 4503599627370496 := by simp [partM, e]
    have ee : partE a = -1074 := by simp [partE, e]
    have hR : a % 9223372036854775808 < 4503599627370496 ∧ a % 9223372036854775808 ≠ 0 := by
      unfold classS at e
      revert e
      repeat' split
      all_goals omega
    have hmR : partM a = a % 9223372036854775808 := by omega
    have hbl : Lib.bitLen (partM a).toNat ≤ 52 := by
      apply Classical.byContradiction
      intro hc
      have h53 : Lib.bitLen (partM a).toNat = 53 := by omega
      have hs0 : shf (partM a).toNat = 0 := by unfold shf; omega
      have : nrm (partM a).toNat = (partM a).toNat := by unfold nrm; rw [hs0, Nat.pow_zero, Nat.mul_one]
      omega
    have hS : 1 ≤ shf (partM a).toNat ∧ shf (partM a).toNat ≤ 52 := by unfold shf; omega
    refine ⟨by omega, by omega, ?_⟩
    unfold joinS
    rw [if_pos (by omega), show 4503599627370496 + nrm (partM a).toNat % 4503599627370496 = nrm (partM a).toNat by omega]
    have : (-1022 - (partE a - (shf (partM a).toNat : Int) + 52)).toNat = shf (partM a).toNat := by omega
    rw [this]
    unfold nrm
    rw [Nat.mul_div_cancel _ (Nat.two_pow_pos _)]
    omega
  · have em : partM a = a % 4503599627370496 + 4503599627370496 := by simp [partM, e]
    have ee : partE a = a / 4503599627370496 % 2048 - 1075 := by simp [partE, e]
    have hR : a % 9223372036854775808 < 9218868437227405312 ∧ 4503599627370496 ≤ a % 9223372036854775808 := by
      unfold classS at e
      revert e
      repeat' split
      all_goals omega
    have hbl : Lib.bitLen (partM a).toNat = 53 := by
      apply Classical.byContradiction
      intro hc
      have hS : 1 ≤ shf (partM a).toNat := by unfold shf; omega
      have : (partM a).toNat * 2 ≤ nrm (partM a).toNat := by
        unfold nrm
        exact Nat.mul_le_mul_left _ (by
          have := Nat.pow_le_pow_right (show 0 < 2 by decide) hS
          simpa using this)
      omega
    have hs0 : shf (partM a).toNat = 0 := by unfold shf; omega
    have hn : nrm (partM a).toNat = (partM a).toNat := by unfold nrm; rw [hs0, Nat.pow_zero, Nat.mul_one]
    refine ⟨by omega, by omega, ?_⟩
    unfold joinS
    rw [if_neg (by omega), hn, hs0]
    omega
theorem sizeL_great (a : Int) (h : classS a = 4 ∨ classS a = 5) : sizeL (classS a) (partM a).toNat (partE a) = [48, 120, 49] ++ (fracL (nrm (partM a).toNat % 4503599627370496) ++ 112 :: expL (partE a - shf (partM a).toNat + 52)) := by
  unfold sizeL
  rw [if_neg (by omega), if_neg (by omega), if_neg (by omega)]
  simp
theorem rs_text (a : Int) (ha : U a) : rsS (sizeL (classS a) (partM a).toNat (partE a)) = (if nan a then 9221120237041090561 else a % 9223372036854775808, true) := by
  have hcn := class_nan a
  rcases class_cases a with e | e | e | e | e
  · rw [hcn.1 e, e]; rfl
  · have hn : nan a = false := by cases h : nan a <;> simp_all
    have hr : a % 9223372036854775808 = 9218868437227405312 := by
      unfold classS at e
      revert e
      repeat' split
      all_goals omega
    rw [hn, e, hr]; rfl
  · have hn : nan a = false := by cases h : nan a <;> simp_all
    have hr : a % 9223372036854775808 = 0 := by
      unfold classS at e
      revert e
      repeat' split
      all_goals omega
    rw [hn, e, hr]; rfl
  all_goals
    have hn : nan a = false := by cases h : nan a <;> simp_all
    have hg : classS a = 4 ∨ classS a = 5 := by omega
    obtain ⟨j1, j2, j3⟩ := join_back a ha hg
    rw [sizeL_great a hg, hn]
    have hF : nrm (partM a).toNat % 4503599627370496 < 4503599627370496 := Nat.mod_lt _ (by decide)
    generalize nrm (partM a).toNat % 4503599627370496 = F at *
    generalize partE a - (shf (partM a).toNat : Int) + 52 = E at *
    unfold rsS
    have e1 : Lib.trimPrefix ([48, 120, 49] ++ (fracL F ++ 112 :: expL E)) [48, 120, 49] = fracL F ++ 112 :: expL E := by simp [Lib.trimPrefix, Lib.hasPrefix]
    have e2 : Lib.hasPrefix ([48, 120, 49] ++ (fracL F ++ 112 :: expL E)) [48, 120, 49] = true := by simp [Lib.hasPrefix]
    rw [e1, e2, cut_text F hF, rfS_frac F hF, reS_exp E j1 j2]
    rw [if_neg (by simp), if_neg (by simp), if_neg (by simp), if_neg (by simp), if_neg (by simp)]
    simp only [j3, Bool.false_eq_true, if_false]
theorem text_canon (a : Int) (ha : U a) : textS (canonS a) = textS a := by
  cases h : nan a
  · rw [canon_self a h]
  · have e : canonS a = 9221120237041090561 := by simp [canonS, h]
    have hc := (class_nan a).2 h
    have hp : partN a = false := by simp [partN, hc]
    have hs : textS a = sizeL 1 (partM a).toNat (partE a) := by simp [textS, hc, hp]
    rw [e, hs]
    rfl
theorem parse_text (a : Int) (ha : U a) : parseS (textS a) = (canonS a, 0) := by
  have hr := rs_text a ha
  have key : Lib.trimPrefix (textS a) [45] = sizeL (classS a) (partM a).toNat (partE a) ∧ Lib.hasPrefix (textS a) [45] = partN a := by
    have hne : Lib.hasPrefix (sizeL (classS a) (partM a).toNat (partE a)) [45] = false := by
      unfold sizeL Lib.hasPrefix
      repeat' split
      all_goals first | rfl | simp
    unfold textS
    cases partN a
    · simp only [Bool.false_eq_true, if_false, List.nil_append]
      exact ⟨by unfold Lib.trimPrefix; rw [hne]; simp, hne⟩
    · simp [Lib.trimPrefix, Lib.hasPrefix]
  have hsg : signed_ (partN a) (if nan a then 9221120237041090561 else a % 9223372036854775808) = canonS a := by
    obtain ⟨h0, h1⟩ := ha
    cases hn : nan a
    · have hc : ¬ classS a = 1 := by rw [class_nan]; simp [hn]
      have hp : partN a = decide (9223372036854775808 ≤ a) := by simp [partN, hc]
      have hn' := hn
      simp only [nan, decide_eq_false_iff_not] at hn'
      rw [canon_self a hn, hp]
      simp only [Bool.false_eq_true, if_false]
      unfold signed_
      by_cases c : 9223372036854775808 ≤ a
      · rw [decide_eq_true c]
        simp only [if_true]
        have hm : nan (a % 9223372036854775808) = false := by simp only [nan, decide_eq_false_iff_not]; omega
        unfold negS
        rw [hm]
        simp only [Bool.false_eq_true, if_false]
        rw [if_neg (by omega)]
        omega
      · rw [decide_eq_false c]
        simp only [Bool.false_eq_true, if_false]
        omega
    · have hc := (class_nan a).2 hn
      have hp : partN a = false := by simp [partN, hc]
      rw [hp]
      simp [signed_, canonS, hn]
  unfold parseS
  rw [key.1, key.2, hr]
  simp only
  rw [hsg, text_canon a ha]
  simp
end Go.Proofs.YteijjaabngkbjaaGreatDoor.F
namespace Go.Proofs.YteijjaabngkbjaaGreatDoor.F
open Go.RowKit Fl
set_option linter.unusedSimpArgs false
set_option linter.unusedVariables false
def ixFrom (k : Nat) (c : UInt8) : Int := if Lib.indexByte (hexL.drop k) c = -1 then -1 else (k : Int) + Lib.indexByte (hexL.drop k) c
theorem ixFrom_zero (c : UInt8) : ixFrom 0 c = hix c := by
  unfold ixFrom hix
  simp only [List.drop_zero]
  split <;> omega
theorem ib_hit (c : UInt8) (l : List UInt8) : Lib.indexByte (c :: l) c = 0 := by simp [Lib.indexByte]
theorem ib_miss (b c : UInt8) (l : List UInt8) (e : b ≠ c) : Lib.indexByte (b :: l) c = if Lib.indexByte l c = -1 then -1 else Lib.indexByte l c + 1 := by
  have e' : (b == c) = false := by simpa using e
  have hge := Lib.indexByte_ge l c
  rw [Lib.indexByte, e']
  simp only [Bool.false_eq_true, if_false]
  repeat' split
  all_goals first | rfl | omega | simp_all
theorem ixFrom_hit (k : Nat) (b c : UInt8) (h : hexL[k]? = some b) (e : b = c) : ixFrom k c = k := by
  obtain ⟨hk, hb⟩ := List.getElem?_eq_some_iff.1 h
  unfold ixFrom
  rw [List.drop_eq_getElem_cons hk, hb, e, ib_hit]
  simp
theorem ixFrom_miss (k : Nat) (b c : UInt8) (h : hexL[k]? = some b) (e : b ≠ c) : ixFrom k c = ixFrom (k + 1) c := by
  obtain ⟨hk, hb⟩ := List.getElem?_eq_some_iff.1 h
  have hge := Lib.indexByte_ge (hexL.drop (k + 1)) c
  unfold ixFrom
  rw [List.drop_eq_getElem_cons hk, hb, ib_miss _ _ _ e]
  repeat' split
  all_goals omega
theorem digit_any (c : UInt8) (w : World) :
    Calls Tryz.prog 178 #[.int .u8 (c.toNat : Int)] w fun e w' => e = .returned (.int .i64 (hix c)) ∧ w = w' := by
  go_enter Tryz.func178, Tryz.ntmps178
  go_wp2
  go_loop [3] (fun iv => ∃ k : Nat, iv = .int .i64 (k : Int) ∧ k ≤ 16 ∧ ixFrom k c = hix c) (fun iv => 16 - (intOf iv).toNat)
  case atStart => exact ⟨0, rfl, by omega, ixFrom_zero c⟩
  case round =>
    obtain ⟨k, rfl, hk, hf⟩ := hrel
    by_cases hk16 : k < 16
    · obtain ⟨b, hb⟩ : ∃ b, hexL[k]? = some b := ⟨hexL[k], List.getElem?_eq_getElem hk16⟩
      have hx : ∀ W : World, (Instr.index 9 (.string ⟨#[48, 49, 50, 51, 52, 53, 54, 55, 56, 57, 97, 98, 99, 100, 101, 102]⟩) (.int .i64 (k : Int))).run Tryz.prog W = .ok (.int .u8 (b.toNat : Int)) W := fun W => str_index hexL k b hb W
      by_cases e : b = c
      · rw [ixFrom_hit k b c hb e] at hf
        subst e
        have hfH : Hidden ((k : Int) = hix b) := hf
        clear hf hb
        go_wp2
        go_ret
        exact ⟨congrArg (fun z => Ending.returned (.int .i64 z)) hfH, rfl⟩
      · rw [ixFrom_miss k b c hb e] at hf
        have hne : ((b.toNat : Int) == (c.toNat : Int)) = false := by
          simp
          intro h
          exact e (UInt8.toNat_inj.1 (by omega))
        have hfH : Hidden (ixFrom (k + 1) c = hix c) := hf
        clear hf hb e
        go_wp2
        go_round
        case rel => exact ⟨k + 1, by go_num, by omega, hfH⟩
        case measure => simp [intOf]; omega
    · obtain rfl : k = 16 := by omega
      have hfH : Hidden (-1 = hix c) := hf
      clear hf
      go_wp2
      go_ret
      exact ⟨congrArg (fun z => Ending.returned (.int .i64 z)) hfH, rfl⟩
theorem hix_isd : ∀ c : UInt8, (isd c = true ∧ hix c = (c.toNat : Int) - 48) ∨ (isd c = false ∧ (hix c < 0 ∨ 9 < hix c)) := by
  intro c
  have key : ∀ n : Fin 256, (isd (UInt8.ofNat n.1) = true ∧ hix (UInt8.ofNat n.1) = (n.1 : Int) - 48) ∨ (isd (UInt8.ofNat n.1) = false ∧ (hix (UInt8.ofNat n.1) < 0 ∨ 9 < hix (UInt8.ofNat n.1))) := by
    set_option maxRecDepth 100000 in decide
  have := key ⟨c.toNat, c.toNat_lt⟩
  simpa using this
end Go.Proofs.YteijjaabngkbjaaGreatDoor.F
namespace Go.Proofs.YteijjaabngkbjaaGreatDoor.F
open Go.RowKit Fl
set_option linter.unusedSimpArgs false
set_option linter.unusedVariables false
structure Form (t : List UInt8) (F : Nat) (E : Int) : Prop where
  txt : t = [48, 120, 49] ++ (fracL F ++ 112 :: expL E)
  hF : F < 4503599627370496
  h0 : -1074 ≤ E
  h1 : E ≤ 1023
  sub : E < -1022 → (4503599627370496 + F) % 2 ^ (-1022 - E).toNat = 0
def signV (n : Bool) : Int := if n then 9223372036854775808 else 0
def Good (s : List UInt8) (v : Int) : Prop := U v ∧ ∀ a, U a → textS a = s → v = canonS a
theorem good_special (s : List UInt8) (v : Int) (h : parseS s = (v, 0)) (hu : U v) : Good s v := by
  refine ⟨hu, fun a ha e => ?_⟩
  have := parse_text a ha
  rw [e, h] at this
  exact congrArg Prod.fst this
theorem form_of (a : Int) (ha : U a) (h : classS a = 4 ∨ classS a = 5) :
    ∃ F E, Form (sizeL (classS a) (partM a).toNat (partE a)) F E ∧ (joinS F E : Int) = a % 9223372036854775808 := by
  obtain ⟨j1, j2, j3⟩ := join_back a ha h
  have hF : nrm (partM a).toNat % 4503599627370496 < 4503599627370496 := Nat.mod_lt _ (by decide)
  refine ⟨_, _, ⟨sizeL_great a h, hF, j1, j2, ?_⟩, j3⟩
  intro hE
  rcases class_parts a ha with e | e | e | ⟨_, m1, m2, e1, e2⟩
  · omega
  · omega
  · omega
  obtain ⟨b1, b2, b3, b4⟩ := nrm_bounds (partM a).toNat (by omega) (by omega)
  rw [show 4503599627370496 + nrm (partM a).toNat % 4503599627370496 = nrm (partM a).toNat by omega]
  have hk : (-1022 - (partE a - (shf (partM a).toNat : Int) + 52)).toNat ≤ shf (partM a).toNat := by omega
  generalize (-1022 - (partE a - (shf (partM a).toNat : Int) + 52)).toNat = k at *
  unfold nrm
  exact Nat.mod_eq_zero_of_dvd (Nat.dvd_trans (Nat.pow_dvd_pow 2 hk) (Nat.dvd_mul_left _ _))
theorem text_key (a : Int) : Lib.trimPrefix (textS a) [45] = sizeL (classS a) (partM a).toNat (partE a) ∧ Lib.hasPrefix (textS a) [45] = partN a := by
  have hne : Lib.hasPrefix (sizeL (classS a) (partM a).toNat (partE a)) [45] = false := by
    unfold sizeL Lib.hasPrefix
    repeat' split
    all_goals first | rfl | simp
  unfold textS
  cases partN a
  · simp only [Bool.false_eq_true, if_false, List.nil_append]
    exact ⟨by unfold Lib.trimPrefix; rw [hne]; simp, hne⟩
  · simp [Lib.trimPrefix, Lib.hasPrefix]
theorem text_form (s t : List UInt8) (n : Bool) (h1 : (s == [110, 97, 110]) = false) (h2 : (s == [105, 110, 102]) = false) (h3 : (s == [45, 105, 110, 102]) = false) (h4 : (s == [45, 48, 120, 48, 112, 43, 48]) = false)
    (hn : Lib.hasPrefix s [45] = n) (ht : Lib.trimPrefix s [45] = t) (a : Int) (ha : U a) (hs : textS a = s) :
    (canonS a = 0 ∧ t = [48, 120, 48, 112, 43, 48]) ∨ ∃ F E, Form t F E ∧ canonS a = signV n + joinS F E := by
  obtain ⟨k1, k2⟩ := text_key a
  rw [hs, ht] at k1
  rw [hs, hn] at k2
  have hcn := class_nan a
  obtain ⟨h0, hU⟩ := ha
  have ts : s = (if n then [45] else []) ++ t := by rw [← hs, k1, k2]; rfl
  rcases class_cases a with e | e | e | e | e
  · rw [e] at k1
    have hp : partN a = false := by simp [partN, e]
    rw [hp] at k2
    subst k2
    rw [ts, k1] at h1
    cases h1
  · rw [e] at k1
    rw [ts, k1] at h2 h3
    cases n
    · cases h2
    · cases h3
  · rw [e] at k1
    rw [ts, k1] at h4
    cases n
    · left
      have hnn : nan a = false := by cases h : nan a <;> simp_all
      have hp : partN a = decide (9223372036854775808 ≤ a) := by simp [partN, e]
      rw [hp] at k2
      have hlt := of_decide_eq_false k2.symm
      have hr : a % 9223372036854775808 = 0 := by
        unfold classS at e
        revert e
        repeat' split
        all_goals omega
      exact ⟨by rw [canon_self a hnn]; omega, k1⟩
    · cases h4
  all_goals
    right
    have hnn : nan a = false := by cases h : nan a <;> simp_all
    have hp : partN a = decide (9223372036854775808 ≤ a) := by simp [partN, e]
    obtain ⟨F, E, f1, f2⟩ := form_of a ⟨h0, hU⟩ (by omega)
    refine ⟨F, E, by rw [k1]; exact f1, ?_⟩
    rw [canon_self a hnn, f2, k2, hp]
    unfold signV
    by_cases c : 9223372036854775808 ≤ a
    · rw [decide_eq_true c]; simp only [if_true]; omega
    · rw [decide_eq_false c]; simp only [Bool.false_eq_true, if_false]; omega
theorem form_head {t : List UInt8} {F : Nat} {E : Int} (h : Form t F E) : t.take 3 = [48, 120, 49] := by rw [h.txt]; rfl
def scanH : Nat → List UInt8 → Nat → Nat × List UInt8
  | 0, r, acc => (acc, r)
  | _ + 1, [], acc => (acc, [])
  | k + 1, c :: r, acc => if hix c < 0 then (acc, c :: r) else scanH k r (acc * 16 + (hix c).toNat)
def fracS (t : List UInt8) : Nat × List UInt8 :=
  if t[3]? = some 46 then ((scanH 13 (t.drop 4) 0).1 * 16 ^ (13 - ((t.drop 4).length - (scanH 13 (t.drop 4) 0).2.length)), (scanH 13 (t.drop 4) 0).2) else (0, t.drop 3)
theorem scan_fold (c : UInt8) (R : List UInt8) (hc : hix c < 0) (ds : List UInt8) : ∀ (k acc x : Nat), ds.length ≤ k → foldHex ds acc = some x → scanH k (ds ++ c :: R) acc = (x, c :: R) := by
  induction ds with
  | nil =>
    intro k acc x _ h
    cases h
    cases k with
    | zero => rfl
    | succ k => simp [scanH, hc]
  | cons d ds ih =>
    intro k acc x hk h
    rw [List.length_cons] at hk
    rw [foldHex] at h
    cases k with
    | zero => omega
    | succ k =>
      rw [List.cons_append, scanH]
      by_cases hd : hix d < 0
      · rw [if_pos hd] at h; cases h
      · rw [if_neg hd] at h ⊢
        exact ih k _ x (by omega) h
theorem frac_form (F : Nat) (hF : F < 4503599627370496) (R : List UInt8) : fracS ([48, 120, 49] ++ (fracL F ++ 112 :: R)) = (F, 112 :: R) := by
  unfold fracL
  by_cases h : F = 0
  · subst h
    unfold fracS
    simp
  · rw [if_neg h]
    obtain ⟨i1, i2, i3⟩ := hexF_fold 13 F 0 (by omega) hF (by rw [Nat.sub_self, Nat.pow_zero, Nat.mod_one])
    have e1 := scan_fold 112 R (by decide) _ 13 0 _ i3 i1
    unfold fracS
    have e0 : ([48, 120, 49] ++ (46 :: hexF 13 F ++ 112 :: R)).drop 4 = hexF 13 F ++ 112 :: R := rfl
    have e3 : ([48, 120, 49] ++ (46 :: hexF 13 F ++ 112 :: R))[3]? = some 46 := rfl
    rw [if_pos e3, e0, e1]
    simp only [List.length_append, Nat.add_sub_cancel, Nat.zero_mul, Nat.zero_add]
    generalize (hexF 13 F).length = j at *
    congr 1
    exact Nat.div_mul_cancel (Nat.dvd_of_mod_eq_zero i2)
theorem exp_shape (E : Int) (h0 : -1074 ≤ E) (h1 : E ≤ 1023) : ∃ x ds, expL E = x :: ds ∧ 1 ≤ ds.length ∧ ds.length ≤ 4 ∧ foldDec ds 0 = some E.natAbs ∧ ((x = 45 ∧ E < 0) ∨ (x = 43 ∧ 0 ≤ E)) := by
  have hpos : ∀ m, 1 ≤ (Lib.decDigits m).length := by
    intro m
    rw [Lib.decDigits]
    split <;> simp
  unfold expL
  by_cases c : E < 0
  · rw [if_pos c]
    exact ⟨_, _, rfl, hpos _, decDigits_len4 E.natAbs (by omega), foldDec_digits _, Or.inl ⟨rfl, c⟩⟩
  · rw [if_neg c]
    exact ⟨_, _, rfl, hpos _, decDigits_len4 E.toNat (by omega), by rw [foldDec_digits]; congr 1; omega, Or.inr ⟨rfl, by omega⟩⟩
theorem form_tail {t : List UInt8} {F : Nat} {E : Int} (h : Form t F E) : ∃ x ds, fracS t = (F, 112 :: x :: ds) ∧ 1 ≤ ds.length ∧ ds.length ≤ 4 ∧ foldDec ds 0 = some E.natAbs ∧ ((x = 45 ∧ E < 0) ∨ (x = 43 ∧ 0 ≤ E)) ∧ 6 ≤ t.length ∧ t.length ≤ 40 := by
  obtain ⟨x, ds, e1, e2, e3, e4, e5⟩ := exp_shape E h.h0 h.h1
  have hl := fracL_len F
  refine ⟨x, ds, ?_, e2, e3, e4, e5, ?_, ?_⟩
  · rw [h.txt, frac_form F h.hF, e1]
  · rw [h.txt, e1]; simp; omega
  · rw [h.txt, e1]; simp; omega
theorem frac_exit (t : List UInt8) (acc j : Nat) (h3 : t[3]? = some 46) (hj : j + 4 ≤ t.length) (h : scanH 13 (t.drop 4) 0 = (acc, t.drop (j + 4))) : fracS t = (acc * 16 ^ (13 - j), t.drop (j + 4)) := by
  unfold fracS
  rw [if_pos h3, h]
  simp only [List.length_drop]
  rw [show t.length - 4 - (t.length - (j + 4)) = j by omega]
theorem frac_none (t : List UInt8) (h3 : ¬ t[3]? = some 46) : fracS t = (0 * 16 ^ (13 - 0), t.drop 3) := by
  unfold fracS
  rw [if_neg h3, Nat.zero_mul]
theorem form_at {t : List UInt8} {F i m : Nat} {E : Int} (h : Form t F E) (hf : fracS t = (m, t.drop i)) : F = m ∧ ∃ x ds, t.drop i = 112 :: x :: ds ∧ 1 ≤ ds.length ∧ ds.length ≤ 4 ∧ foldDec ds 0 = some E.natAbs ∧ ((x = 45 ∧ E < 0) ∨ (x = 43 ∧ 0 ≤ E)) := by
  obtain ⟨x, ds, e1, e2, e3, e4, e5, _⟩ := form_tail h
  rw [hf] at e1
  exact ⟨(congrArg Prod.fst e1).symm, x, ds, congrArg Prod.snd e1, e2, e3, e4, e5⟩
theorem or_sign (n : Bool) (x : Int) (h0 : 0 ≤ x) (h1 : x < 9223372036854775808) : bits .or .u64 (signV n) x = signV n + x := by
  unfold signV
  cases n
  · simp only [Bool.false_eq_true, if_false]
    rw [u64_or _ _ (by omega) (by omega) (by omega) (by omega)]
    rw [show (0 : Int).toNat = 0 from rfl, Nat.zero_or]
    omega
  · simp only [if_true]
    rw [u64_or _ _ (by omega) (by omega) (by omega) (by omega)]
    have := nat_join 63 9223372036854775808 x.toNat (by decide) (by omega)
    rw [show (9223372036854775808 : Int).toNat = 9223372036854775808 from rfl, this]
    omega
theorem or_three (n : Bool) (e : Int) (m : Nat) (h0 : -1022 ≤ e) (h1 : e ≤ 1023) (hm : m < 4503599627370496) :
    IntKind.u64.wrap ((e + 1023) * 4503599627370496) = (e + 1023) * 4503599627370496 ∧ bits .or .u64 (signV n) ((e + 1023) * 4503599627370496) = signV n + (e + 1023) * 4503599627370496 ∧ bits .or .u64 (signV n + (e + 1023) * 4503599627370496) (m : Int) = signV n + (joinS m e : Nat) := by
  refine ⟨by rw [IntKind.wrap_u64]; omega, or_sign n _ (by omega) (by omega), ?_⟩
  have hs : signV n = 0 ∨ signV n = 9223372036854775808 := by cases n <;> simp [signV]
  rw [u64_or _ _ (by omega) (by omega) (by omega) (by omega)]
  have := nat_join 52 (signV n + (e + 1023) * 4503599627370496).toNat m (by omega) (by omega)
  rw [Int.toNat_natCast, this]
  unfold joinS
  rw [if_neg (by omega)]
  omega
theorem or_hidn (m : Nat) (hm : m < 4503599627370496) : bits .or .u64 (m : Int) 4503599627370496 = ((4503599627370496 + m : Nat) : Int) := by
  rw [u64_or _ _ (by omega) (by omega) (by omega) (by omega)]
  have := nat_join 52 4503599627370496 m (by decide) (by omega)
  rw [show (4503599627370496 : Int).toNat = 4503599627370496 from rfl, Int.toNat_natCast, Nat.or_comm, this]
theorem lost_bits (x k : Nat) (hk : 1 ≤ k) (hk2 : k ≤ 52) : (IntKind.u64.wrap ((x : Int) * 2 ^ (64 - k)) == 0) = decide (x % 2 ^ k = 0) := by
  rw [IntKind.wrap_u64]
  have e : ((x : Int) * 2 ^ (64 - k)) % 18446744073709551616 = ((x % 2 ^ k * 2 ^ (64 - k) : Nat) : Int) := by
    have h1 : (18446744073709551616 : Nat) = 2 ^ k * 2 ^ (64 - k) := by rw [← Nat.pow_add, show k + (64 - k) = 64 by omega]
    have h2 : (x * 2 ^ (64 - k)) % 18446744073709551616 = x % 2 ^ k * 2 ^ (64 - k) := by rw [h1, Nat.mul_mod_mul_right]
    rw [← h2, Int.natCast_emod, Int.natCast_mul, Int.natCast_pow]
    rfl
  rw [e]
  have hp : 0 < 2 ^ (64 - k) := Nat.two_pow_pos _
  by_cases c : x % 2 ^ k = 0
  · rw [decide_eq_true c, c]; simp
  · rw [decide_eq_false c]
    have : x % 2 ^ k * 2 ^ (64 - k) ≠ 0 := Nat.mul_ne_zero c (by omega)
    simp only [beq_eq_false_iff_ne]
    omega
end Go.Proofs.YteijjaabngkbjaaGreatDoor.F
namespace Go.Proofs.YteijjaabngkbjaaGreatDoor.F
open Go.RowKit Fl
set_option linter.unusedSimpArgs false
set_option linter.unusedVariables false
theorem str_len (t : List UInt8) : ((⟨t.toArray⟩ : ByteArray).size : Int) = (t.length : Int) := by simp [ByteArray.size]
theorem sign_split (s : List UInt8) : (Lib.hasPrefix s [45] = true ∧ s = 45 :: Lib.trimPrefix s [45]) ∨ (Lib.hasPrefix s [45] = false ∧ Lib.trimPrefix s [45] = s ∧ (s = [] ∨ ∃ c q, s = c :: q ∧ ((c.toNat : Int) == 45) = false)) := by
  cases s with
  | nil => right; exact ⟨rfl, rfl, Or.inl rfl⟩
  | cons c q =>
    by_cases h : c = 45
    · subst h
      left
      exact ⟨rfl, rfl⟩
    · right
      have hp : Lib.hasPrefix (c :: q) [45] = false := by
        show List.isPrefixOf [45] (c :: q) = false
        simp [List.isPrefixOf]
        exact fun e => h e.symm
      refine ⟨hp, by unfold Lib.trimPrefix; rw [hp]; simp, Or.inr ⟨c, q, rfl, ?_⟩⟩
      simp only [beq_eq_false_iff_ne, ne_eq]
      intro hc
      exact h (UInt8.toNat_inj.1 (by have : c.toNat = 45 := by omega
                                     exact this))
theorem sh_frac (M nn : Nat) (hn : nn ≤ 13) (hM : M < 16 ^ nn) : IntKind.u64.wrap ((M : Int) * 2 ^ (4 * (13 - (nn : Int))).toNat) = ((M * 16 ^ (13 - nn) : Nat) : Int) ∧ M * 16 ^ (13 - nn) < 4503599627370496 := by
  rw [show (4 * (13 - (nn : Int))).toNat = 4 * (13 - nn) by omega, IntKind.wrap_u64]
  have e16 : (16 : Nat) ^ (13 - nn) = 2 ^ (4 * (13 - nn)) := by rw [Nat.pow_mul]
  have hb : M * 16 ^ (13 - nn) < 16 ^ 13 := by
    have : 16 ^ nn * 16 ^ (13 - nn) = 16 ^ 13 := by rw [← Nat.pow_add]; congr 1; omega
    rw [← this]
    exact Nat.mul_lt_mul_of_pos_right hM (Nat.pow_pos (by decide))
  rw [e16] at hb ⊢
  have e3 : ((M * 2 ^ (4 * (13 - nn)) : Nat) : Int) = (M : Int) * 2 ^ (4 * (13 - nn)) := by rw [Int.natCast_mul, Int.natCast_pow]; rfl
  rw [← e3]
  generalize M * 2 ^ (4 * (13 - nn)) = z at *
  omega
def eV (x : UInt8) (acc : Nat) : Int := if x = 45 then -(acc : Int) else (acc : Int)
set_option maxRecDepth 20000 in
set_option maxHeartbeats 8000000 in
theorem read_walk (s t : List UInt8) (n : Bool) (hl : s.length ≤ 9223372036854775807) (h1 : (s == [110, 97, 110]) = false) (h2 : (s == [105, 110, 102]) = false) (h3 : (s == [45, 105, 110, 102]) = false) (h4 : (s == [45, 48, 120, 48, 112, 43, 48]) = false)
    (hd : Hidden ((n = true ∧ s = 45 :: t) ∨ (n = false ∧ t = s ∧ (s = [] ∨ ∃ c q, s = c :: q ∧ ((c.toNat : Int) == 45) = false))))
    (g0 : Hidden ((∀ F E, ¬ Form t F E) → Good s 0)) (gv : Hidden (∀ v, U v → t.take 3 = [48, 120, 49] → (∀ F E, Form t F E → v = signV n + joinS F E) → Good s v)) (w : World) :
    Calls Tryz.prog 177 #[.string ⟨s.toArray⟩] w fun e w' => ∃ v, e = .returned (.int .u64 v) ∧ Good s v ∧ w = w' := by
  have hsl := str_len s
  have htl := str_len t
  go_enter Tryz.func177, Tryz.ntmps177
  go_upto_region 11 with fail
  go_cut [27] (fun b wx => b = .bool n ∧ wx = w)
  case first =>
    rcases (show _ ∨ _ from hd) with ⟨rfl, e⟩ | ⟨rfl, _, e | ⟨c, q, e, hc⟩⟩
    · have hx : ∀ W : World, (Instr.index 9 (.string ⟨s.toArray⟩) (.int .i64 0)).run Tryz.prog W = .ok (.int .u8 45) W := fun W => str_index s 0 45 (by rw [e]; rfl) W
      have hp : 0 < s.length := by rw [e]; simp
      clear e
      go_wp2
      go_meet
      exact ⟨rfl, rfl⟩
    · have hp : s.length = 0 := by rw [e]; rfl
      clear e
      go_wp2
      go_meet
      exact ⟨rfl, rfl⟩
    · have hx : ∀ W : World, (Instr.index 9 (.string ⟨s.toArray⟩) (.int .i64 0)).run Tryz.prog W = .ok (.int .u8 (c.toNat : Int)) W := fun W => str_index s 0 c (by rw [e]; rfl) W
      have hp : 0 < s.length := by rw [e]; simp
      clear e
      go_wp2
      go_meet
      exact ⟨rfl, rfl⟩
  case rest =>
    obtain ⟨rfl, rfl⟩ := hcut
    go_upto_if 27 with fail
    go_cut [0, 3] (fun tv sv wx => tv = .string ⟨t.toArray⟩ ∧ sv = .int .u64 (signV n) ∧ wx = wc)
    case first =>
      rcases (show _ ∨ _ from hd) with ⟨rfl, e⟩ | ⟨rfl, e, _⟩
      · have hx : ∀ W : World, (Instr.slice 9 (.string ⟨s.toArray⟩) (some (.int .i64 1)) none none).run Tryz.prog W = .ok (.string ⟨t.toArray⟩) W := fun W => (slice_from s 1 (by rw [e]; simp) hl W).trans (by rw [e]; rfl)
        clear e
        go_wp2
        go_meet
        exact ⟨rfl, rfl, rfl⟩
      · subst e
        go_wp2
        go_meet
        exact ⟨rfl, rfl, rfl⟩
    case rest =>
      obtain ⟨rfl, rfl, rfl⟩ := hcut
      have htle : t.length ≤ 9223372036854775807 := by
        rcases (show _ ∨ _ from hd) with ⟨_, e⟩ | ⟨_, e, _⟩
        · rw [e, List.length_cons] at hl
          omega
        · rw [e]
          exact hl
      clear h1 h2 h3 h4 hsl hd hl
      by_cases c1 : t.length < 6
      · go_wp2
        go_ret
        exact ⟨_, rfl, (show _ → _ from g0) fun F E h => by have := (form_tail h).choose_spec.choose_spec; omega, rfl⟩
      by_cases c2 : 40 < t.length
      · go_wp2
        go_ret
        exact ⟨_, rfl, (show _ → _ from g0) fun F E h => by have := (form_tail h).choose_spec.choose_spec; omega, rfl⟩
      have hsl3 : ∀ W : World, (Instr.slice 9 (.string ⟨t.toArray⟩) none (some (.int .i64 3)) none).run Tryz.prog W = .ok (.string ⟨(t.take 3).toArray⟩) W := fun W => slice_to t 3 (by omega) (by omega) W
      by_cases c3 : t.take 3 = [48, 120, 49]
      · rw [c3] at hsl3
        have c3H : Hidden (t.take 3 = [48, 120, 49]) := c3
        clear c3
        obtain ⟨c, hc⟩ : ∃ c, t[3]? = some c := ⟨t[3], List.getElem?_eq_getElem (by omega)⟩
        have hx3 : ∀ W : World, (Instr.index 9 (.string ⟨t.toArray⟩) (.int .i64 3)).run Tryz.prog W = .ok (.int .u8 (c.toNat : Int)) W := fun W => str_index t 3 c hc W
        have hcH : Hidden (t[3]? = some c) := hc
        clear hc
        go_upto_if 46 with fail
        go_cut [4, 5, 6] (fun iv mv nv wx => ∃ i M nn : Nat, iv = .int .i64 (i : Int) ∧ mv = .int .u64 (M : Int) ∧ nv = .int .i64 (nn : Int) ∧ nn ≤ 13 ∧ M < 16 ^ nn ∧ 3 ≤ i ∧ i ≤ t.length ∧ fracS t = (M * 16 ^ (13 - nn), t.drop i) ∧ wx = wc)
        case first =>
          by_cases c4 : c = 46
          · subst c4
            go_wp2
            go_loopg [4, 5, 6] 13 (fun k iv mv nv wr => ∃ j acc : Nat, iv = .int .i64 ((j : Int) + 4) ∧ mv = .int .u64 (acc : Int) ∧ nv = .int .i64 (j : Int) ∧ j ≤ 13 ∧ j + 4 ≤ t.length ∧ acc < 16 ^ j ∧ scanH (13 - j) (t.drop (j + 4)) acc = scanH 13 (t.drop 4) 0 ∧ k = 13 - j ∧ wr = wc)
            case atStart => exact ⟨0, 0, rfl, rfl, rfl, by omega, by omega, by simp, rfl, rfl, rfl⟩
            case round =>
              obtain ⟨j, acc, rfl, rfl, rfl, hj, hjl, hacc, hsc, hgk, rfl⟩ := hrel
              have hgkH : Hidden (gk = 13 - j) := hgk
              clear hgk
              have hscH : Hidden (scanH (13 - j) (t.drop (j + 4)) acc = scanH 13 (t.drop 4) 0) := hsc
              have haccH : Hidden (acc < 16 ^ j) := hacc
              clear hsc hacc
              by_cases c5 : j + 4 < t.length
              · by_cases c6 : j < 13
                · obtain ⟨d, hd⟩ : ∃ d, t[j + 4]? = some d := ⟨t[j + 4], List.getElem?_eq_getElem c5⟩
                  have hdr : t.drop (j + 4) = d :: t.drop (j + 5) := by
                    have := List.drop_eq_getElem_cons c5
                    rw [List.getElem?_eq_getElem c5] at hd
                    cases hd
                    exact this
                  have hstep : scanH (13 - j) (t.drop (j + 4)) acc = if hix d < 0 then (acc, t.drop (j + 4)) else scanH (13 - (j + 1)) (t.drop (j + 5)) (acc * 16 + (hix d).toNat) := by
                    rw [hdr, show 13 - j = (13 - (j + 1)) + 1 by omega, scanH]
                  have hxj : ∀ W : World, (Instr.index 9 (.string ⟨t.toArray⟩) (.int .i64 ((j : Int) + 4))).run Tryz.prog W = .ok (.int .u8 (d.toNat : Int)) W := fun W => by
                    have := str_index t (j + 4) d hd W
                    simpa using this
                  have kd := digit_any d
                  have hbd := hix_bounds d
                  clear hdr hd
                  by_cases c7 : hix d < 0
                  · rw [if_pos c7] at hstep
                    have hfin : Hidden (scanH 13 (t.drop 4) 0 = (acc, t.drop (j + 4))) := (show _ = _ from hscH).symm.trans hstep
                    clear hstep
                    generalize hix d = D at *
                    go_wp2_with (go_at_call 178; refine (kd _).mono ?_; rintro e w' ⟨rfl, rfl⟩)
                    go_meet
                    exact ⟨j + 4, acc, j, by go_num, rfl, rfl, hj, haccH, by omega, by omega, frac_exit t acc j hcH (by omega) hfin, rfl⟩
                  · rw [if_neg c7] at hstep
                    obtain ⟨D, hD⟩ := Int.eq_ofNat_of_zero_le (show 0 ≤ hix d by omega)
                    rw [hD] at kd hbd
                    rw [hD, Int.toNat_natCast] at hstep
                    have hp : acc < 281474976710656 := by
                      have := Nat.pow_le_pow_right (show 0 < 16 by decide) (show j ≤ 12 by omega)
                      have h' : acc < 16 ^ j := haccH
                      omega
                    have hor := or_digit acc D hp (by omega)
                    have hp2 : Hidden (acc * 16 + D < 16 ^ (j + 1)) := by
                      show _ < _
                      have h' : acc < 16 ^ j := haccH
                      rw [Nat.pow_succ]
                      omega
                    have hnx : Hidden (scanH (13 - (j + 1)) (t.drop (j + 1 + 4)) (acc * 16 + D) = scanH 13 (t.drop 4) 0) := by
                      show _ = _
                      rw [show j + 1 + 4 = j + 5 by omega, ← hstep]
                      exact hscH
                    have hD16 : D < 16 := by omega
                    clear hstep hD c7 hscH haccH
                    go_wp2_with (go_at_call 178; refine (kd _).mono ?_; rintro e w' ⟨rfl, rfl⟩)
                    go_roundg (13 - (j + 1))
                    case measure =>
                      have : gk = 13 - j := hgkH
                      omega
                    case rel => exact ⟨j + 1, acc * 16 + D, by go_num, by go_num, by go_num, by omega, by omega, hp2, hnx, rfl, rfl⟩
                · obtain rfl : j = 13 := by omega
                  have hfin : Hidden (scanH 13 (t.drop 4) 0 = (acc, t.drop (13 + 4))) := (show _ = _ from hscH).symm
                  go_wp2
                  go_meet
                  exact ⟨13 + 4, acc, 13, by go_num, rfl, rfl, hj, haccH, by omega, by omega, frac_exit t acc 13 hcH (by omega) hfin, rfl⟩
              · have e : t.drop (j + 4) = [] := List.drop_eq_nil_of_le (by omega)
                have hfin : Hidden (scanH 13 (t.drop 4) 0 = (acc, t.drop (j + 4))) := (show _ = _ from hscH).symm.trans (by
                  rw [e]
                  cases 13 - j <;> rfl)
                clear e
                go_wp2
                go_meet
                exact ⟨j + 4, acc, j, by go_num, rfl, rfl, hj, haccH, by omega, by omega, frac_exit t acc j hcH (by omega) hfin, rfl⟩
          · have c4' : ((c.toNat : Int) == 46) = false := by
              simp only [beq_eq_false_iff_ne, ne_eq]
              intro h
              exact c4 (UInt8.toNat_inj.1 (show c.toNat = 46 by omega))
            go_wp2
            go_meet
            exact ⟨3, 0, 0, rfl, rfl, rfl, by omega, by simp, by omega, by omega, frac_none t (by
              intro h
              rw [show t[3]? = some c from hcH] at h
              exact c4 (Option.some.inj h)), rfl⟩
        case rest =>
          obtain ⟨i, M, nn, rfl, rfl, rfl, hnn, hM, hi, hi2, hfr, rfl⟩ := hcut
          obtain ⟨hsh, hm2⟩ := sh_frac M nn hnn hM
          generalize M * 16 ^ (13 - nn) = m at *
          have hfrH : Hidden (fracS t = (m, t.drop i)) := hfr
          clear hfr hM hsl3 hx3 hcH
          by_cases d1 : t.length < i + 3
          · go_wp2
            go_ret
            exact ⟨_, rfl, (show _ → _ from g0) fun F E h => by
              obtain ⟨_, x, ds, e, e1, e2, _⟩ := form_at h hfrH
              have := congrArg List.length e
              simp at this
              omega, rfl⟩
          by_cases d2 : i + 6 < t.length
          · go_wp2
            go_ret
            exact ⟨_, rfl, (show _ → _ from g0) fun F E h => by
              obtain ⟨_, x, ds, e, e1, e2, _⟩ := form_at h hfrH
              have := congrArg List.length e
              simp at this
              omega, rfl⟩
          have hget : Hidden (∀ j c, (t.drop i)[j]? = some c → t[i + j]? = some c) := by
            intro j c h
            rwa [List.getElem?_drop] at h
          obtain ⟨p, x, ds, hrest⟩ : ∃ p x ds, t.drop i = p :: x :: ds := by
            have hln : (t.drop i).length = t.length - i := by simp
            cases e : t.drop i with
            | nil => rw [e] at hln; simp at hln; omega
            | cons p q =>
              cases q with
              | nil => rw [e] at hln; simp at hln; omega
              | cons x ds => exact ⟨p, x, ds, rfl⟩
          have hln : ds.length + 2 + i = t.length := by
            have := congrArg List.length hrest
            simp at this
            omega
          have hxp : ∀ W : World, (Instr.index 9 (.string ⟨t.toArray⟩) (.int .i64 (i : Int))).run Tryz.prog W = .ok (.int .u8 (p.toNat : Int)) W := fun W => str_index t i p ((show ∀ j c, (t.drop i)[j]? = some c → t[i + j]? = some c from hget) 0 p (by rw [hrest]; rfl)) W
          have hxx : ∀ W : World, (Instr.index 9 (.string ⟨t.toArray⟩) (.int .i64 ((i : Int) + 1))).run Tryz.prog W = .ok (.int .u8 (x.toNat : Int)) W := fun W => str_index t (i + 1) x ((show ∀ j c, (t.drop i)[j]? = some c → t[i + j]? = some c from hget) 1 x (by rw [hrest]; rfl)) W
          have hxd : Hidden (∀ (j : Nat) (c : UInt8), ds[j]? = some c → ∀ W : World, (Instr.index 9 (.string ⟨t.toArray⟩) (.int .i64 ((i : Int) + 2 + (j : Int)))).run Tryz.prog W = .ok (.int .u8 (c.toNat : Int)) W) := by
            intro j c h W
            have := str_index t (i + (j + 2)) c ((show ∀ j c, (t.drop i)[j]? = some c → t[i + j]? = some c from hget) (j + 2) c (by rw [hrest]; simpa using h)) W
            rw [show ((i + (j + 2) : Nat) : Int) = (i : Int) + 2 + (j : Int) by omega] at this
            exact this
          have hfm : Hidden (∀ F E, Form t F E → F = m ∧ p = 112 ∧ foldDec ds 0 = some E.natAbs ∧ ((x = 45 ∧ E < 0) ∨ (x = 43 ∧ 0 ≤ E))) := by
            intro F E h
            obtain ⟨a1, x', ds', e, e1, e2, e3, e4⟩ := form_at h hfrH
            rw [hrest] at e
            cases e
            exact ⟨a1, rfl, e3, e4⟩
          clear hrest hget hfrH
          by_cases d3 : p = 112
          · subst d3
            go_wp2
            go_loopg [7, 8] ds.length (fun k ev kv wr => ∃ j acc : Nat, ev = .int .i64 (acc : Int) ∧ kv = .int .i64 ((i : Int) + 2 + (j : Int)) ∧ j ≤ ds.length ∧ acc < 10 ^ j ∧ foldDec (ds.drop j) acc = foldDec ds 0 ∧ k = ds.length - j ∧ wr = wc)
            case atStart => exact ⟨0, 0, rfl, by go_num, by omega, by simp, rfl, rfl, rfl⟩
            case round =>
              obtain ⟨j, acc, rfl, rfl, hj, hacc, hf, hgk, rfl⟩ := hrel
              have hgkH : Hidden (gk = ds.length - j) := hgk
              have hp : acc < 10000 := by
                have := Nat.pow_le_pow_right (show 0 < 10 by decide) (show j ≤ 4 by omega)
                omega
              by_cases hjl : j < ds.length
              · obtain ⟨c, hc⟩ : ∃ c, ds[j]? = some c := ⟨ds[j], List.getElem?_eq_getElem hjl⟩
                have hdr : ds.drop j = c :: ds.drop (j + 1) := by
                  have := List.drop_eq_getElem_cons hjl
                  rw [List.getElem?_eq_getElem hjl] at hc
                  cases hc
                  exact this
                rw [hdr, foldDec] at hf
                have hx := (show ∀ (j : Nat) (c : UInt8), ds[j]? = some c → ∀ W : World, _ from hxd) j c hc
                have kd := digit_any c
                clear hdr hc hxd hgk
                rcases hix_isd c with ⟨k1, k2⟩ | ⟨k1, k2⟩
                · rw [if_pos k1] at hf
                  have hcb : 48 ≤ c.toNat ∧ c.toNat ≤ 57 := by simpa [isd] using k1
                  obtain ⟨D, hD⟩ : ∃ D, c.toNat = D + 48 := ⟨c.toNat - 48, by omega⟩
                  rw [hD] at hf
                  rw [Nat.add_sub_cancel] at hf
                  have hDi : hix c = (D : Int) := by omega
                  rw [hDi] at kd
                  have hD9 : D ≤ 9 := by omega
                  have hp2 : Hidden (acc * 10 + D < 10 ^ (j + 1)) := by show _ < _; rw [Nat.pow_succ]; omega
                  have hfH : Hidden (foldDec (List.drop (j + 1) ds) (acc * 10 + D) = foldDec ds 0) := hf
                  clear hf hacc hcb hD hDi k1 k2
                  go_wp2_with (go_at_call 178; refine (kd _).mono ?_; rintro e w' ⟨rfl, rfl⟩)
                  go_roundg (ds.length - (j + 1))
                  case measure =>
                    have : gk = ds.length - j := hgkH
                    omega
                  case rel => exact ⟨j + 1, acc * 10 + D, by go_num, by go_num, by omega, hp2, hfH, rfl, rfl⟩
                · rw [k1] at hf
                  simp only [Bool.false_eq_true, if_false] at hf
                  have hfH : Hidden (none = foldDec ds 0) := hf
                  clear hf k1 hacc
                  rcases k2 with k2 | k2
                  all_goals
                    generalize hix c = D at *
                    go_wp2_with (go_at_call 178; refine (kd _).mono ?_; rintro e w' ⟨rfl, rfl⟩)
                    go_ret
                    exact ⟨_, rfl, (show _ → _ from g0) fun F E h => by
                      obtain ⟨_, _, e3, _⟩ := (show ∀ F E, Form t F E → _ from hfm) F E h
                      rw [← show none = foldDec ds 0 from hfH] at e3
                      exact absurd e3 (by simp), rfl⟩
              · obtain rfl : j = ds.length := by omega
                rw [List.drop_length, foldDec] at hf
                have hfH : Hidden (some acc = foldDec ds 0) := hf
                clear hf hacc hgk hxd
                have hfe : Hidden (∀ F E, Form t F E → F = m ∧ E = eV x acc) := by
                  intro F E h
                  obtain ⟨a1, _, a3, a4⟩ := (show ∀ F E, Form t F E → _ from hfm) F E h
                  rw [← show some acc = foldDec ds 0 from hfH] at a3
                  have a5 : acc = E.natAbs := Option.some.inj a3
                  refine ⟨a1, ?_⟩
                  unfold eV
                  rcases a4 with ⟨b1, b2⟩ | ⟨b1, b2⟩
                  · rw [if_pos b1]; omega
                  · rw [if_neg (by rw [b1]; decide)]; omega
                have heb : -10000 < eV x acc ∧ eV x acc < 10000 := by
                  unfold eV
                  split <;> omega
                clear hfm hfH
                go_upto_if 126 with fail
                go_cut [7] (fun ev wx => ev = .int .i64 (eV x acc) ∧ wx = wr)
                case first =>
                  by_cases d4 : x = 45
                  · have hE : Hidden (-(acc : Int) = eV x acc) := by unfold eV; rw [if_pos d4]; rfl
                    subst d4
                    go_wp2
                    go_meet
                    exact ⟨congrArg (Value.int .i64) hE, rfl⟩
                  · have hE : Hidden ((acc : Int) = eV x acc) := by unfold eV; rw [if_neg d4]; rfl
                    have d4' : ((x.toNat : Int) == 45) = false := by
                      simp only [beq_eq_false_iff_ne, ne_eq]
                      intro h
                      exact d4 (UInt8.toNat_inj.1 (show x.toNat = 45 by omega))
                    go_wp2
                    go_meet
                    exact ⟨congrArg (Value.int .i64) hE, rfl⟩
                case rest =>
                  obtain ⟨rfl, rfl⟩ := hcut
                  generalize eV x acc = e at *
                  clear hxx hxp hsh
                  by_cases d5 : 1023 < e
                  · go_wp2
                    go_ret
                    exact ⟨_, rfl, (show _ → _ from g0) fun F E h => by
                      have a1 := ((show ∀ F E, Form t F E → _ from hfe) F E h).2
                      have a2 := h.h1
                      omega, rfl⟩
                  by_cases d6 : e < -1074
                  · go_wp2
                    go_ret
                    exact ⟨_, rfl, (show _ → _ from g0) fun F E h => by
                      have a1 := ((show ∀ F E, Form t F E → _ from hfe) F E h).2
                      have a2 := h.h0
                      omega, rfl⟩
                  have hju := join_U m e hm2 (by omega) (by omega)
                  have hgood : Hidden (Good s (signV n + joinS m e)) := (show ∀ v, U v → _ from gv) _ (by
                    unfold signV
                    split <;> exact ⟨by omega, by omega⟩) c3H (fun F E h => by
                    obtain ⟨a1, a2⟩ := (show ∀ F E, Form t F E → _ from hfe) F E h
                    rw [a1, a2])
                  by_cases d7 : -1022 ≤ e
                  · obtain ⟨o1, o2, o3⟩ := or_three n e m d7 (by omega) hm2
                    generalize (joinS m e : Nat) = J at *
                    go_wp2
                    go_ret
                    exact ⟨_, rfl, hgood, rfl⟩
                  · obtain ⟨k, hk⟩ := Int.eq_ofNat_of_zero_le (show 0 ≤ -1022 - e by omega)
                    have hor := or_hidn m hm2
                    have hJ : joinS m e = (4503599627370496 + m) / 2 ^ k := by
                      unfold joinS
                      rw [if_pos (by omega), hk]
                      rfl
                    have hsub : Hidden (∀ F E, Form t F E → (4503599627370496 + m) % 2 ^ k = 0) := by
                      intro F E h
                      obtain ⟨a1, a2⟩ := (show ∀ F E, Form t F E → _ from hfe) F E h
                      have a3 := h.sub (by omega)
                      rw [a1, a2, hk] at a3
                      exact a3
                    have hlost := lost_bits (4503599627370496 + m) k (by omega) (by omega)
                    have hz : 4503599627370496 + m < 9007199254740992 := by omega
                    have h64 : (64 - (k : Int)).toNat = 64 - k := by omega
                    have hJi : ((4503599627370496 + m : Nat) : Int) / 2 ^ k = ((joinS m e : Nat) : Int) := by
                      rw [hJ, Int.natCast_ediv, Int.natCast_pow]
                      rfl
                    have ho2 := or_sign n (joinS m e : Nat) (by omega) (by omega)
                    generalize (joinS m e : Nat) = J at *
                    generalize 4503599627370496 + m = z at *
                    clear hJ
                    by_cases d8 : z % 2 ^ k = 0
                    · rw [decide_eq_true d8] at hlost
                      have hlost2 : (IntKind.u64.wrap ((z : Int) * 2 ^ (64 - k)) != 0) = false := by rw [bne, hlost]; rfl
                      clear d8 hsub
                      go_wp2
                      go_ret
                      exact ⟨_, rfl, hgood, rfl⟩
                    · rw [decide_eq_false d8] at hlost
                      have hlost2 : (IntKind.u64.wrap ((z : Int) * 2 ^ (64 - k)) != 0) = true := by rw [bne, hlost]; rfl
                      have d8H : Hidden (¬ z % 2 ^ k = 0) := d8
                      clear d8
                      go_wp2
                      go_ret
                      exact ⟨_, rfl, (show _ → _ from g0) fun F E h => d8H ((show ∀ F E, Form t F E → _ from hsub) F E h), rfl⟩
          · have d3' : ((p.toNat : Int) == 112) = false := by
              simp only [beq_eq_false_iff_ne, ne_eq]
              intro h
              exact d3 (UInt8.toNat_inj.1 (show p.toNat = 112 by omega))
            have d3n : ((p.toNat : Int) != 112) = true := by rw [bne, d3']; rfl
            have d3H : Hidden (¬ p = 112) := d3
            clear d3
            go_wp2
            go_ret
            exact ⟨_, rfl, (show _ → _ from g0) fun F E h => d3H ((show ∀ F E, Form t F E → _ from hfm) F E h).2.1, rfl⟩
      · have c3b : (((⟨t.toArray⟩ : ByteArray).extract 0 3).toList == [48, 120, 49]) = false := by
          have e : (⟨t.toArray⟩ : ByteArray).extract 0 3 = ⟨(t.take 3).toArray⟩ := by
            apply ByteArray.ext
            apply Array.ext'
            rw [Lib.extract_data]
            simp
          rw [e]
          simpa using c3
        have c3H : Hidden (¬ t.take 3 = [48, 120, 49]) := c3
        clear c3 hsl3
        go_wp2
        go_ret
        exact ⟨_, rfl, (show _ → _ from g0) fun F E h => c3H (form_head h), rfl⟩
end Go.Proofs.YteijjaabngkbjaaGreatDoor.F
namespace Go.Proofs.YteijjaabngkbjaaGreatDoor.F
open Go.RowKit Fl
set_option linter.unusedSimpArgs false
set_option linter.unusedVariables false
theorem good_nan : Good [110, 97, 110] 9221120237041090561 := good_special _ _ rfl ⟨by omega, by omega⟩
theorem good_inf : Good [105, 110, 102] 9218868437227405312 := good_special _ _ rfl ⟨by omega, by omega⟩
theorem good_ninf : Good [45, 105, 110, 102] 18442240474082181120 := good_special _ _ rfl ⟨by omega, by omega⟩
theorem good_nzero : Good [45, 48, 120, 48, 112, 43, 48] 9223372036854775808 := good_special _ _ rfl ⟨by omega, by omega⟩
set_option maxRecDepth 20000 in
theorem read_any (s : List UInt8) (hl : s.length ≤ 9223372036854775807) (w : World) :
    Calls Tryz.prog 177 #[.string ⟨s.toArray⟩] w fun e w' => ∃ v, e = .returned (.int .u64 v) ∧ Good s v ∧ w = w' := by
  by_cases h1 : s = [110, 97, 110]
  · subst h1
    go_enter Tryz.func177, Tryz.ntmps177
    go_wp2
    go_ret
    exact ⟨_, rfl, good_nan, rfl⟩
  by_cases h2 : s = [105, 110, 102]
  · subst h2
    go_enter Tryz.func177, Tryz.ntmps177
    go_wp2
    go_ret
    exact ⟨_, rfl, good_inf, rfl⟩
  by_cases h3 : s = [45, 105, 110, 102]
  · subst h3
    go_enter Tryz.func177, Tryz.ntmps177
    go_wp2
    go_ret
    exact ⟨_, rfl, good_ninf, rfl⟩
  by_cases h4 : s = [45, 48, 120, 48, 112, 43, 48]
  · subst h4
    go_enter Tryz.func177, Tryz.ntmps177
    go_wp2
    go_ret
    exact ⟨_, rfl, good_nzero, rfl⟩
  have k1 : (s == [110, 97, 110]) = false := by simpa using h1
  have k2 : (s == [105, 110, 102]) = false := by simpa using h2
  have k3 : (s == [45, 105, 110, 102]) = false := by simpa using h3
  have k4 : (s == [45, 48, 120, 48, 112, 43, 48]) = false := by simpa using h4
  have key := text_form s _ _ k1 k2 k3 k4 rfl rfl
  refine read_walk s (Lib.trimPrefix s [45]) (Lib.hasPrefix s [45]) hl k1 k2 k3 k4 (sign_split s) ?_ ?_ w
  · intro hno
    refine ⟨⟨by omega, by omega⟩, fun a ha e => ?_⟩
    rcases key a ha e with ⟨z, _⟩ | ⟨F, E, f, _⟩
    · exact z.symm
    · exact absurd f (hno F E)
  · intro v hv htk hf
    refine ⟨hv, fun a ha e => ?_⟩
    rcases key a ha e with ⟨_, z⟩ | ⟨F, E, f, g⟩
    · rw [z] at htk
      exact absurd htk (by decide)
    · rw [g]
      exact hf F E f
theorem parse_good (s : List UInt8) (v : Int) (g : Good s v) : parseS s = if textS v == s then (v, 0) else (0, 10) := by
  by_cases h : textS v = s
  · have e : (textS v == s) = true := by simpa using h
    have h2 := g.2 v g.1 h
    rw [if_pos e, ← h, parse_text v g.1, ← h2]
  · have e : (textS v == s) = false := by simpa using h
    rw [if_neg (by rw [e]; simp)]
    unfold parseS
    generalize hx : signed_ (Lib.hasPrefix s [45]) (rsS (Lib.trimPrefix s [45])).1 = x
    have hxU : U x := by
      rw [← hx]
      unfold signed_
      split
      · exact neg_U _ (rs_U _)
      · exact rs_U _
    by_cases hq : textS x = s
    · have h2 := g.2 x hxU hq
      exfalso
      apply h
      rw [h2, text_canon x hxU, hq]
    · have e2 : (textS x == s) = false := by simpa using hq
      rw [e2, Bool.and_false]
      rfl
theorem rparse_walk (s : List UInt8) (P : Int × Int → Prop) (hP : Hidden (∀ v, Good s v → P (if textS v == s then (v, 0) else (0, 10)))) (hl : s.length ≤ 9223372036854775807) (w : World) :
    Calls Tryz.prog 142 #[.string ⟨s.toArray⟩] w fun r w' => ∃ a e, P (a, e) ∧ r = .returned (.tuple #[.int .u64 a, .int .i64 e]) ∧ Kb w w' := by
  have k1 := read_any s hl
  go_enter Tryz.func142, Tryz.ntmps142
  go_wp2_with (first
    | (go_at_call 177; refine (k1 _).mono ?_; rintro e w' ⟨v, rfl, g, rfl⟩; have kt := rtext_any v g.1; have hPv := (show ∀ v, Good s v → P _ from hP) v g; generalize textS v = T at kt hPv; have hPH : Hidden (P (if T == s then (v, 0) else (0, 10))) := hPv; clear hPv)
    | (go_at_call 176; refine (kt _).mono ?_; rintro e w' ⟨rfl, g2⟩))
  · go_ret2
    rename_i hq
    have hq' : (T == s) = false := by simpa using hq
    have hP2 : P (if T == s then (v, 0) else (0, 10)) := hPH
    rw [hq'] at hP2
    exact ⟨0, 10, hP2, rfl, g2⟩
  · go_ret2
    rename_i hq
    have hq' : (T == s) = true := by simpa using hq
    have hP2 : P (if T == s then (v, 0) else (0, 10)) := hPH
    rw [hq'] at hP2
    exact ⟨v, 0, hP2, rfl, g2⟩
theorem rparse_any (s : List UInt8) (a e : Int) (h : parseS s = (a, e)) (hl : s.length ≤ 9223372036854775807) (w : World) :
    Calls Tryz.prog 142 #[.string ⟨s.toArray⟩] w fun r w' => r = .returned (.tuple #[.int .u64 a, .int .i64 e]) ∧ Kb w w' := by
  refine (rparse_walk s (fun p => p = (a, e)) (fun v g => by rw [← parse_good s v g]; exact h) hl w).mono ?_
  rintro r w' ⟨a', e', hp, rfl, g⟩
  cases hp
  exact ⟨rfl, g⟩
end Go.Proofs.YteijjaabngkbjaaGreatDoor.F
namespace Go.Proofs.YteijjaabngkbjaaGreatDoor.F
open Go.RowKit Fl
set_option linter.unusedSimpArgs false
set_option linter.unusedVariables false
def Rep (M r : Nat) : Prop := r < 9218868437227405312 ∧ val r = M * K
theorem rep_of (M : Nat) (h : M ≤ 9007199254740992) : ∃ r, Rep M r := by
  by_cases c : M < 9007199254740992
  · obtain ⟨r, hr, hv⟩ := val_of M ((0 : Int) + 1074).toNat c (by omega)
    exact ⟨r, hr, hv⟩
  · obtain ⟨r, hr, hv⟩ := val_of 4503599627370496 (((0 : Int) + 1074).toNat + 1) (by omega) (by omega)
    refine ⟨r, hr, ?_⟩
    have e : 2 ^ ((0 : Int) + 1074).toNat = K := by rw [K]
    rw [hv, Nat.pow_succ, e, show M = 4503599627370496 * 2 by omega]
    generalize K = k
    omega
theorem fi_word (n : Int) (r : Nat) (h : Rep n.natAbs r) : floatOfInt .f64 n = Ieee.double.word (decide (n < 0)) r := by
  rw [floatOfInt_eq, rung_exact n.natAbs 0 r ((0 : Int) + 1074).toNat 0 h.1 (by omega) (by rw [h.2, Nat.pow_zero, Nat.mul_one, K])]
theorem rep_zero (M r : Nat) (h : Rep M r) : r = 0 ↔ M = 0 := by
  rw [← val_inj, h.2, val_zero, Nat.mul_eq_zero]
  have := K_pos
  omega
theorem read_word (s : Bool) (r : Nat) (hr : r < 9218868437227405312) : Ieee.double.read (Ieee.double.word s r) = .number s (mag r) (-1074 + (ex r : Nat)) := by
  rw [word_f]
  cases s
  · simp only [Bool.false_eq_true, if_false]
    exact read_pos r hr
  · simp only [if_true]
    have e1 : (9223372036854775808 + r) % 9223372036854775808 = r := by omega
    have e2 : (9223372036854775808 + r) / 9223372036854775808 % 2 = 1 := by omega
    rw [read_fin _ (by omega), e1, e2]
    rfl
theorem fromInt_is (n v : Int) (h : ((floatOfInt .f64 n : Nat) : Int) = v) (w : World) :
    Calls Tryz.prog 164 #[.int .i64 n] w fun e w' => e = .returned (.int .u64 v) ∧ w = w' := h ▸ fromInt_any n w
end Go.Proofs.YteijjaabngkbjaaGreatDoor.F
namespace Go.Proofs.YteijjaabngkbjaaGreatDoor.F
open Go.RowKit Fl
set_option linter.unusedSimpArgs false
set_option linter.unusedVariables false
theorem quo_some (m k : Nat) (hm : m ≤ 9007199254740992) (hk : k ≤ 9007199254740992) (hk0 : k ≠ 0) :
    ∃ r : Nat, floatBits .quo .f64 (floatOfInt .f64 (m : Int)) (floatOfInt .f64 (k : Int)) = some r ∧ nan (r : Int) = false := by
  obtain ⟨rm, h1⟩ := rep_of m hm
  obtain ⟨rk, h2⟩ := rep_of k hk
  have z : rk ≠ 0 := fun h => hk0 ((rep_zero k rk h2).1 h)
  rw [fi_word (m : Int) rm (by simpa using h1), fi_word (k : Int) rk (by simpa using h2)]
  change ∃ r : Nat, Ieee.double.div _ _ = some r ∧ _
  unfold Ieee.Format.div
  rw [read_word _ _ h1.1, read_word _ _ h2.1]
  simp only [Ieee.Datum.quotient]
  rw [if_neg (mag_pos rk z)]
  simp only [Option.map_some, Ieee.Format.write]
  refine ⟨_, rfl, ?_⟩
  rw [nearest_rung]
  exact (nan_word _ _ (rung_le _ _)).1
def quoS (m k : Nat) : Nat := (floatBits .quo .f64 (floatOfInt .f64 (m : Int)) (floatOfInt .f64 (k : Int))).getD 0
theorem quoS_some (m k : Nat) (hm : m ≤ 9007199254740992) (hk : k ≤ 9007199254740992) (hk0 : k ≠ 0) :
    floatBits .quo .f64 (floatOfInt .f64 (m : Int)) (floatOfInt .f64 (k : Int)) = some (quoS m k) ∧ nan (quoS m k : Int) = false := by
  obtain ⟨r, h1, h2⟩ := quo_some m k hm hk hk0
  have : quoS m k = r := by unfold quoS; rw [h1]; rfl
  rw [this]
  exact ⟨h1, h2⟩
def allD (l : List UInt8) : Bool := l.all isd && !l.isEmpty
theorem allDigits_walk (l : List UInt8) (v : Bool) (hl : l.length ≤ 9223372036854775807) (hv : Hidden (l.all isd = v)) (w : World) :
    Calls Tryz.prog 162 #[.string ⟨l.toArray⟩] w fun e w' => e = .returned (.bool (v && !l.isEmpty)) ∧ w = w' := by
  have hs := str_len l
  go_enter Tryz.func162, Tryz.ntmps162
  go_wp2
  go_loopg [6] l.length (fun k iv wr => ∃ j : Nat, iv = .int .i64 (j : Int) ∧ j ≤ l.length ∧ (l.drop j).all isd = v ∧ k = l.length - j ∧ wr = w)
  case atStart => exact ⟨0, rfl, by omega, hv, rfl, rfl⟩
  case round =>
    obtain ⟨j, rfl, hj, hf, hgk, rfl⟩ := hrel
    have hgkH : Hidden (gk = l.length - j) := hgk
    clear hgk
    by_cases hjl : j < l.length
    · obtain ⟨c, hc⟩ : ∃ c, l[j]? = some c := ⟨l[j], List.getElem?_eq_getElem hjl⟩
      have hdr : l.drop j = c :: l.drop (j + 1) := by
        have := List.drop_eq_getElem_cons hjl
        rw [List.getElem?_eq_getElem hjl] at hc
        cases hc
        exact this
      rw [hdr, List.all_cons] at hf
      have hx := str_index l j c hc
      have kd := isDigit_any c
      clear hdr hc
      cases hdg : isd c
      · rw [hdg] at hf kd
        rw [Bool.false_and] at hf
        subst hf
        clear hdg
        go_wp2_with (go_at_call 201; refine (kd _).mono ?_; rintro e w' ⟨rfl, rfl⟩)
        go_ret
        exact ⟨rfl, rfl⟩
      · rw [hdg] at hf kd
        rw [Bool.true_and] at hf
        have hfH : Hidden ((l.drop (j + 1)).all isd = v) := hf
        clear hdg hf
        go_wp2_with (go_at_call 201; refine (kd _).mono ?_; rintro e w' ⟨rfl, rfl⟩)
        go_roundg (l.length - (j + 1))
        case measure =>
          have : gk = l.length - j := hgkH
          omega
        case rel => exact ⟨j + 1, by go_num, by omega, hfH, rfl, rfl⟩
    · obtain rfl : j = l.length := by omega
      rw [List.drop_length] at hf
      obtain rfl : true = v := hf
      clear hv
      go_wp2
      go_ret
      exact ⟨by simp, rfl⟩
theorem allDigits_is (l : List UInt8) (v : Bool) (hv : allD l = v) (hl : l.length ≤ 9223372036854775807) (w : World) :
    Calls Tryz.prog 162 #[.string ⟨l.toArray⟩] w fun e w' => e = .returned (.bool v) ∧ w = w' := by
  have := allDigits_walk l _ hl rfl w
  rw [← hv]
  exact this
def stepD (m : Nat) (c : UInt8) : Nat := m * 10 + (c.toNat - 48)
def numD (l : List UInt8) : Nat := l.foldl stepD 0
theorem isd_lt (c : UInt8) (h : isd c = true) : ∃ D, c.toNat = D + 48 ∧ D ≤ 9 := by
  have hcb : 48 ≤ c.toNat ∧ c.toNat ≤ 57 := by simpa [isd] using h
  exact ⟨c.toNat - 48, by omega, by omega⟩
theorem numD_lt (l : List UInt8) : ∀ (m k : Nat), l.all isd = true → m < 10 ^ k → l.foldl stepD m < 10 ^ (k + l.length) := by
  induction l with
  | nil => intro m k _ h; simpa using h
  | cons c l ih =>
    intro m k h hm
    rw [List.all_cons, Bool.and_eq_true] at h
    obtain ⟨D, hD, hD9⟩ := isd_lt c h.1
    rw [List.foldl_cons, List.length_cons, show k + (l.length + 1) = k + 1 + l.length by omega]
    refine ih _ _ h.2 ?_
    unfold stepD
    rw [Nat.pow_succ]
    omega
def litS (s : List UInt8) : Int × Int :=
  if (cut1 s 46).2.2 && allD (cut1 s 46).1 && allD (cut1 s 46).2.1 then
    if 15 < (cut1 s 46).1.length + (cut1 s 46).2.1.length then (0, 3) else ((quoS (numD ((cut1 s 46).1 ++ (cut1 s 46).2.1)) (10 ^ (cut1 s 46).2.1.length) : Nat), 0)
  else (0, 10)
theorem kb_iter (w : World) (s : ByteArray) (pos : Nat) : Kb w (w.iter s pos) := by
  refine ⟨⟨rfl, rfl, fun i hi => ?_⟩, by show w.heap.size ≤ (w.heap.push _).size; rw [Array.size_push]; omega⟩
  have e : (w.iter s pos).heap[i]? = w.heap[i]? := by
    show (w.heap.push _)[i]? = _
    rw [Array.getElem?_push_lt hi]
    exact (Array.getElem?_eq_getElem hi).symm
  rw [e]
  cases w.heap[i]? with
  | none => rfl
  | some o => cases o <;> simp
theorem pow10_le (k : Nat) (h : k ≤ 15) : 10 ^ k ≤ 1000000000000000 := Nat.pow_le_pow_right (by decide) h
theorem next_digit (w : World) (q : List UInt8) (j : Nat) (c : UInt8) (hc : q[j]? = some c) (h : c.toNat < 128) (ty : TypeId) :
    (Instr.next (.pointer (some ⟨w.heap.size, 0, none⟩)) true ty).run Tryz.prog (w.iter ⟨q.toArray⟩ j) = .ok (.tuple #[.bool true, .int .i64 (j : Int), .int .i32 (c.toNat : Int)]) (w.iter ⟨q.toArray⟩ (j + 1)) := by
  obtain ⟨hk, hcc⟩ := List.getElem?_eq_some_iff.1 hc
  have hs : j < (⟨q.toArray⟩ : ByteArray).size := by simpa [ByteArray.size] using hk
  have e : (⟨q.toArray⟩ : ByteArray)[j]'hs = c := by
    show q.toArray[j] = c
    simpa using hcc
  have := run_next_ascii (P := Tryz.prog) w ⟨q.toArray⟩ j ty hs (by rw [e]; exact h)
  rw [e] at this
  exact this
set_option maxRecDepth 20000 in
set_option maxHeartbeats 4000000 in
theorem lit_good (s b a q : List UInt8) (N : Nat) (hs : s.length ≤ 9223372036854775807) (hcut : Hidden (cut1 s 46 = (b, a, true))) (hA : Hidden (allD b = true)) (hB : Hidden (allD a = true)) (hq : Hidden (b ++ a = q)) (hL : b.length + a.length ≤ 15) (hN : Hidden (numD q = N)) (w : World) :
    Calls Tryz.prog 125 #[.string ⟨s.toArray⟩] w fun r w' => r = .returned (.tuple #[.int .u64 (quoS N (10 ^ a.length) : Nat), .int .i64 0]) ∧ Kb w w' := by
  have k1 := cut_any s 46 b a true hcut hs
  have hA2 : allD b = true := hA
  have hB2 : allD a = true := hB
  have hlb : b.length ≤ 9223372036854775807 := by omega
  have hla : a.length ≤ 9223372036854775807 := by omega
  have hb := str_len b
  have ha := str_len a
  have hcat := fun W : World => run_string_add_lists (P := Tryz.prog) W b a (by omega) (by omega)
  rw [show b ++ a = q from hq] at hcat
  have hql : q.length = b.length + a.length := by rw [← show b ++ a = q from hq]; simp
  have hqd : Hidden (q.all isd = true) := by
    have h1 : allD b = true := hA
    have h2 : allD a = true := hB
    unfold allD at h1 h2
    rw [Bool.and_eq_true] at h1 h2
    show _ = _
    rw [← show b ++ a = q from hq, List.all_append, h1.1, h2.1]
    rfl
  have hNb : N < 10 ^ q.length := by
    have := numD_lt q 0 0 hqd (by decide)
    rw [← show numD q = N from hN]
    rw [Nat.zero_add] at this
    exact this
  have hp15 : Hidden (10 ^ q.length ≤ 1000000000000000) := pow10_le q.length (by omega)
  have hpa := pow10_le a.length (by omega)
  have hpa0 : 10 ^ a.length ≠ 0 := by have := Nat.pow_pos (n := a.length) (show 0 < 10 by decide); omega
  obtain ⟨hq1, hq2⟩ := quoS_some N (10 ^ a.length) (by have : 10 ^ q.length ≤ 1000000000000000 := hp15; omega) (by omega) hpa0
  have kdv := div_exact (floatOfInt .f64 (N : Int) : Nat) (floatOfInt .f64 ((10 ^ a.length : Nat) : Int) : Nat) _ (by simpa using hq1) hq2
  generalize quoS N (10 ^ a.length) = V at *
  generalize hPP : 10 ^ a.length = PP at *
  generalize hX : ((floatOfInt .f64 (N : Int) : Nat) : Int) = X at *
  generalize hY : ((floatOfInt .f64 (PP : Int) : Nat) : Int) = Y at *
  have hPH : Hidden (10 ^ a.length = PP) := hPP
  have hNH : Hidden (N < 10 ^ q.length) := hNb
  have hq15 : q.length ≤ 15 := by omega
  clear hPP hq1 hq2 hpa0 hNb hql
  go_enter Tryz.func125, Tryz.ntmps125
  go_wp2_with (first
    | (go_at_call 161; refine (k1 _).mono ?_; rintro e W1 ⟨rfl, g⟩)
    | (go_at_call 162; refine (allDigits_is _ _ (by with_reducible assumption) (by with_reducible assumption) _).mono ?_; rintro e w' ⟨rfl, rfl⟩))
  go_loopg [7] q.length (fun k mv wr => ∃ j acc : Nat, mv = .int .i64 (acc : Int) ∧ j ≤ q.length ∧ acc < 10 ^ j ∧ (q.drop j).foldl stepD acc = N ∧ k = q.length - j ∧ wr = W1.iter ⟨q.toArray⟩ j)
  case atStart => exact ⟨0, 0, rfl, by omega, by simp, hN, rfl, rfl⟩
  case round =>
    obtain ⟨j, acc, rfl, hj, hacc, hf, hgk, rfl⟩ := hrel
    have hgkH : Hidden (gk = q.length - j) := hgk
    have haccH : Hidden (acc < 10 ^ j) := hacc
    have hab : acc < 1000000000000000 := Nat.lt_of_lt_of_le hacc (pow10_le j (by omega))
    clear hgk hacc
    by_cases hjl : j < q.length
    · obtain ⟨c, hc⟩ : ∃ c, q[j]? = some c := ⟨q[j], List.getElem?_eq_getElem hjl⟩
      have hdr : q.drop j = c :: q.drop (j + 1) := by
        have := List.drop_eq_getElem_cons hjl
        rw [List.getElem?_eq_getElem hjl] at hc
        cases hc
        exact this
      have hci : isd c = true := by
        have h1 : q.all isd = true := hqd
        rw [List.all_eq_true] at h1
        exact h1 c (List.mem_of_getElem? hc)
      obtain ⟨D, hD, hD9⟩ := isd_lt c hci
      rw [hdr, List.foldl_cons, stepD, hD, Nat.add_sub_cancel] at hf
      have hnx := next_digit W1 q j c hc (by omega)
      rw [show ((c.toNat : Nat) : Int) = (D : Int) + 48 by omega] at hnx
      have hfH : Hidden ((q.drop (j + 1)).foldl stepD (acc * 10 + D) = N) := hf
      have hp2 : Hidden (acc * 10 + D < 10 ^ (j + 1)) := by
        show _ < _
        have : acc < 10 ^ j := haccH
        rw [Nat.pow_succ]
        omega
      clear hdr hc hci hD hf
      go_wp2
      go_roundg (q.length - (j + 1))
      case measure =>
        have : gk = q.length - j := hgkH
        omega
      case rel => exact ⟨j + 1, acc * 10 + D, by go_num, by omega, hp2, hfH, rfl, rfl⟩
    · obtain rfl : j = q.length := by omega
      rw [List.drop_length, List.foldl_nil] at hf
      subst hf
      have hnx := fun ty => run_next_end (P := Tryz.prog) W1 ⟨q.toArray⟩ q.length ty (by simp [ByteArray.size])
      go_wp2
      go_loopg [8, 50] a.length (fun k pv iv wr => ∃ j p : Nat, pv = .int .i64 (p : Int) ∧ iv = .int .i64 (j : Int) ∧ p = 10 ^ j ∧ j ≤ a.length ∧ k = a.length - j ∧ wr = W1.iter ⟨q.toArray⟩ q.length)
      case atStart => exact ⟨0, 1, rfl, rfl, by simp, by omega, rfl, rfl⟩
      case round =>
        obtain ⟨i, p, rfl, rfl, hp, hi, hgk2, rfl⟩ := hrel
        have hgkH2 : Hidden (gk = a.length - i) := hgk2
        have hpb := pow10_le i (by omega)
        rw [← hp] at hpb
        have hpH : Hidden (p = 10 ^ i) := hp
        clear hp hgk2
        by_cases hia : i < a.length
        · have hpn : Hidden (p * 10 = 10 ^ (i + 1)) := by
            show _ = _
            rw [Nat.pow_succ, ← show p = 10 ^ i from hpH]
          go_wp2
          go_roundg (a.length - (i + 1))
          case measure =>
            have : gk = a.length - i := hgkH2
            omega
          case rel => exact ⟨i + 1, p * 10, by go_num, by go_num, hpn, by omega, rfl, rfl⟩
        · obtain rfl : i = a.length := by omega
          obtain rfl : p = PP := (show p = _ from hpH).trans hPH
          go_wp2_with (first
            | (go_at_call 164; refine (fromInt_is _ _ (by with_reducible assumption) _).mono ?_; rintro e w' ⟨rfl, rfl⟩)
            | (go_at_call 163; refine (kdv _).mono ?_; rintro e w' ⟨rfl, rfl⟩))
          go_ret2
          exact ⟨rfl, g.trans (kb_iter _ _ _)⟩
theorem lit_bad (s b a : List UInt8) (fd A B : Bool) (hs : s.length ≤ 9223372036854775807) (hcut : cut1 s 46 = (b, a, fd)) (hA : allD b = A) (hB : allD a = B) (hlb : b.length ≤ 9223372036854775807) (hla : a.length ≤ 9223372036854775807) (h : (fd && A && B) = false) (w : World) :
    Calls Tryz.prog 125 #[.string ⟨s.toArray⟩] w fun r w' => r = .returned (.tuple #[.int .u64 0, .int .i64 10]) ∧ Kb w w' := by
  have k1 := cut_any s 46 b a fd hcut hs
  clear hcut
  cases fd
  · clear h hA hB
    go_enter Tryz.func125, Tryz.ntmps125
    go_wp2_with (first
      | (go_at_call 161; refine (k1 _).mono ?_; rintro e W1 ⟨rfl, g⟩))
    go_ret2
    exact ⟨rfl, g⟩
  · cases A
    · clear h hB
      go_enter Tryz.func125, Tryz.ntmps125
      go_wp2_with (first
        | (go_at_call 161; refine (k1 _).mono ?_; rintro e W1 ⟨rfl, g⟩)
        | (go_at_call 162; refine (allDigits_is _ _ (by with_reducible assumption) (by with_reducible assumption) _).mono ?_; rintro e w' ⟨rfl, rfl⟩))
      go_ret2
      exact ⟨rfl, g⟩
    · cases B
      · clear h
        go_enter Tryz.func125, Tryz.ntmps125
        go_wp2_with (first
          | (go_at_call 161; refine (k1 _).mono ?_; rintro e W1 ⟨rfl, g⟩)
          | (go_at_call 162; refine (allDigits_is _ _ (by with_reducible assumption) (by with_reducible assumption) _).mono ?_; rintro e w' ⟨rfl, rfl⟩))
        go_ret2
        exact ⟨rfl, g⟩
      · cases h
theorem lit_big (s b a : List UInt8) (hs : s.length ≤ 9223372036854775807) (hcut : cut1 s 46 = (b, a, true)) (hA : allD b = true) (hB : allD a = true) (hlb : b.length ≤ 9223372036854775807) (hla : a.length ≤ 9223372036854775807) (hlab : b.length + a.length ≤ 9223372036854775807) (h : 15 < b.length + a.length) (w : World) :
    Calls Tryz.prog 125 #[.string ⟨s.toArray⟩] w fun r w' => r = .returned (.tuple #[.int .u64 0, .int .i64 3]) ∧ Kb w w' := by
  have k1 := cut_any s 46 b a true hcut hs
  have hb := str_len b
  have ha := str_len a
  clear hcut
  go_enter Tryz.func125, Tryz.ntmps125
  go_wp2_with (first
    | (go_at_call 161; refine (k1 _).mono ?_; rintro e W1 ⟨rfl, g⟩)
    | (go_at_call 162; refine (allDigits_is _ _ (by with_reducible assumption) (by with_reducible assumption) _).mono ?_; rintro e w' ⟨rfl, rfl⟩))
  go_ret2
  exact ⟨rfl, g⟩
theorem cut_lens (s b a : List UInt8) (c : UInt8) (fd : Bool) (h : cut1 s c = (b, a, fd)) : b.length + a.length ≤ s.length := by
  unfold cut1 at h
  have hb := indexByte_lt s c
  split at h
  · cases h
    simp
    omega
  · cases h
    simp
theorem lit_any (s : List UInt8) (v e : Int) (h : litS s = (v, e)) (hs : s.length ≤ 9223372036854775807) (w : World) :
    Calls Tryz.prog 125 #[.string ⟨s.toArray⟩] w fun r w' => r = .returned (.tuple #[.int .u64 v, .int .i64 e]) ∧ Kb w w' := by
  obtain ⟨b, a, fd, hcut⟩ : ∃ b a fd, cut1 s 46 = (b, a, fd) := ⟨_, _, _, rfl⟩
  have hlen := cut_lens s b a 46 fd hcut
  unfold litS at h
  rw [hcut] at h
  simp only at h
  cases hg : (fd && allD b && allD a)
  · rw [hg] at h
    cases h
    exact lit_bad s b a fd _ _ hs hcut rfl rfl (by omega) (by omega) hg w
  · rw [hg] at h
    simp only [if_true] at h
    rw [Bool.and_eq_true, Bool.and_eq_true] at hg
    obtain ⟨⟨g1, g2⟩, g3⟩ := hg
    subst g1
    by_cases c : 15 < b.length + a.length
    · rw [if_pos c] at h
      cases h
      exact lit_big s b a hs hcut g2 g3 (by omega) (by omega) (by omega) c w
    · rw [if_neg c] at h
      cases h
      exact lit_good s b a _ _ hs hcut g2 g3 rfl (by omega) rfl w
end Go.Proofs.YteijjaabngkbjaaGreatDoor.F
namespace Go.Proofs.YteijjaabngkbjaaGreatDoor.F
open Go.RowKit Fl
set_option linter.unusedSimpArgs false
set_option linter.unusedVariables false
def litR : List UInt8 → Nat → Nat → Nat → Bool → Option (Nat × Nat × Nat)
  | [], m, n, b, _ => some (m, n, b)
  | c :: r, m, n, b, p =>
    if c = 46 ∧ p = false ∧ 0 < n then litR r m n b true
    else if isd c then litR r (if n + 1 ≤ 15 then stepD m c else m) (n + 1) (if p then b + 1 else b) p
    else none
def outR : Option (Nat × Nat × Nat) → Int × Int
  | none => (0, 10)
  | some (m, n, b) => if b = 0 then (0, 10) else if 15 < n then (0, 3) else ((quoS m (10 ^ b) : Nat), 0)
def capD : List UInt8 → Nat → Nat → Nat
  | [], m, _ => m
  | c :: r, m, n => capD r (if n + 1 ≤ 15 then stepD m c else m) (n + 1)
theorem capD_small (l : List UInt8) : ∀ (m n : Nat), n + l.length ≤ 15 → capD l m n = l.foldl stepD m := by
  induction l with
  | nil => intro m n _; rfl
  | cons c l ih =>
    intro m n h
    rw [List.length_cons] at h
    rw [capD, List.foldl_cons, if_pos (by omega), ih _ _ (by omega)]
theorem isd_point : isd 46 = false := by decide
theorem litR_behind (l : List UInt8) : ∀ (m n b : Nat), litR l m n b true = if l.all isd then some (capD l m n, n + l.length, b + l.length) else none := by
  induction l with
  | nil => intro m n b; rfl
  | cons c l ih =>
    intro m n b
    rw [litR, if_neg (by simp), List.all_cons, List.length_cons, capD]
    cases h : isd c
    · simp
    · simp only [if_true, Bool.true_and]
      rw [ih]
      split
      · congr 2
        congr 1 <;> omega
      · rfl
theorem cut_cons (c : UInt8) (l : List UInt8) (h : c ≠ 46) : cut1 (c :: l) 46 = (c :: (cut1 l 46).1, (cut1 l 46).2.1, (cut1 l 46).2.2) := by
  have hge := Lib.indexByte_ge l 46
  unfold cut1
  rw [ib_miss c 46 l h]
  by_cases h2 : Lib.indexByte l 46 = -1
  · rw [if_pos h2, h2, if_neg (by omega), if_neg (by omega)]
  · rw [if_neg h2, if_pos (by omega), if_pos (by omega)]
    obtain ⟨i, hi⟩ := Int.eq_ofNat_of_zero_le (show 0 ≤ Lib.indexByte l 46 by omega)
    rw [hi]
    have e : ((i : Int) + 1).toNat = i + 1 := by omega
    rw [e, Int.toNat_natCast]
    simp
theorem cut_hit (l : List UInt8) : cut1 (46 :: l) 46 = ([], l, true) := by
  unfold cut1
  rw [ib_hit]
  simp
theorem cut_nil : cut1 [] 46 = ([], [], false) := by decide
theorem litR_ahead (l : List UInt8) : ∀ (m n : Nat), litR l m n 0 false =
    if (cut1 l 46).1.all isd then
      if (cut1 l 46).2.2 then
        if 0 < n + (cut1 l 46).1.length ∧ (cut1 l 46).2.1.all isd = true then some (capD ((cut1 l 46).1 ++ (cut1 l 46).2.1) m n, n + (cut1 l 46).1.length + (cut1 l 46).2.1.length, (cut1 l 46).2.1.length) else none
      else some (capD (cut1 l 46).1 m n, n + (cut1 l 46).1.length, 0)
    else none := by
  induction l with
  | nil => intro m n; rw [cut_nil]; rfl
  | cons c l ih =>
    intro m n
    by_cases h : c = 46
    · subst h
      rw [cut_hit, litR]
      simp only [List.all_nil, if_true, List.length_nil, Nat.add_zero, List.nil_append]
      by_cases hn : 0 < n
      · rw [if_pos ⟨trivial, trivial, hn⟩, litR_behind]
        by_cases ha : l.all isd = true
        · rw [if_pos ha, if_pos ⟨hn, ha⟩, Nat.zero_add]
        · rw [if_neg ha, if_neg (fun g => ha g.2)]
      · rw [if_neg (fun g => hn g.2.2), isd_point, if_neg (show ¬ (false = true) by simp), if_neg (fun g => hn g.1)]
    · rw [cut_cons c l h, litR, if_neg (fun g => h g.1)]
      simp only [List.all_cons, List.length_cons, List.cons_append, capD, Bool.false_eq_true, if_false]
      cases hd : isd c
      · simp
      · simp only [if_true, Bool.true_and]
        rw [ih]
        have e1 : n + 1 + (cut1 l 46).1.length = n + ((cut1 l 46).1.length + 1) := by omega
        rw [e1]
theorem litR_litS (s : List UInt8) : outR (litR s 0 0 0 false) = litS s := by
  rw [litR_ahead]
  unfold litS allD
  generalize cut1 s 46 = q
  obtain ⟨b, a, fd⟩ := q
  simp only
  cases hb : b.all isd
  · simp [outR]
  · simp only [if_true, Bool.true_and]
    cases fd
    · simp [outR]
    · simp only [if_true, Bool.true_and]
      cases b with
      | nil => simp [outR]
      | cons c b =>
        cases ha : a.all isd
        · simp [outR]
        · cases a with
          | nil => simp [outR]
          | cons d a =>
            rw [if_pos ⟨by simp, rfl⟩]
            simp only [outR, List.isEmpty_cons, Bool.not_false, Bool.and_self, if_true]
            rw [if_neg (by simp), Nat.zero_add]
            by_cases hl : 15 < (c :: b).length + (d :: a).length
            · rw [if_pos hl, if_pos hl]
            · rw [if_neg hl, if_neg hl, capD_small _ _ _ (by rw [List.length_append]; omega)]
              rfl
def capPow (n : Nat) : Nat := 10 ^ (min n 15)
theorem cap_le (n : Nat) : capPow n ≤ 1000000000000000 := pow10_le _ (Nat.min_le_right _ _)
theorem cap_step (m n D : Nat) (h : m < capPow n) (hn : n + 1 ≤ 15) (hD : D ≤ 9) : m * 10 + D < capPow (n + 1) := by
  unfold capPow at *
  rw [Nat.min_eq_left (by omega)] at h
  rw [Nat.min_eq_left hn, Nat.pow_succ]
  omega
theorem cap_keep (m n : Nat) (h : m < capPow n) (hn : ¬ n + 1 ≤ 15) : m < capPow (n + 1) := by
  unfold capPow at *
  rw [Nat.min_eq_right (by omega)] at h ⊢
  exact h
set_option maxRecDepth 20000 in
set_option maxHeartbeats 8000000 in
theorem rlit_walk (s : List UInt8) (R : Option (Nat × Nat × Nat)) (hR : Hidden (litR s 0 0 0 false = R)) (hs : s.length ≤ 9223372036854775807) (w : World) :
    Calls Tryz.prog 143 #[.string ⟨s.toArray⟩] w fun r w' => r = .returned (.tuple #[.int .u64 (outR R).1, .int .i64 (outR R).2]) ∧ Kb w w' := by
  have hsl := str_len s
  go_enter Tryz.func143, Tryz.ntmps143
  go_wp2
  go_loopg [4, 5, 6, 7, 8] s.length (fun k mv nv bv pv iv wr => ∃ (j m n b : Nat) (p : Bool), mv = .int .i64 (m : Int) ∧ nv = .int .i64 (n : Int) ∧ bv = .int .i64 (b : Int) ∧ pv = .bool p ∧ iv = .int .i64 (j : Int) ∧ j ≤ s.length ∧ n ≤ j ∧ b ≤ n ∧ m < capPow n ∧ litR (s.drop j) m n b p = R ∧ k = s.length - j ∧ wr = w)
  case atStart => exact ⟨0, 0, 0, 0, false, rfl, rfl, rfl, rfl, rfl, by omega, by omega, by omega, by decide, hR, rfl, rfl⟩
  case round =>
    obtain ⟨j, m, n, b, p, rfl, rfl, rfl, rfl, rfl, hj, hn, hb, hm, hf, hgk, rfl⟩ := hrel
    have hgkH : Hidden (gk = s.length - j) := hgk
    have hmH : Hidden (m < capPow n) := hm
    have hm15 : m < 1000000000000000 := Nat.lt_of_lt_of_le hm (cap_le n)
    clear hgk hm
    by_cases hjl : j < s.length
    · obtain ⟨c, hc⟩ : ∃ c, s[j]? = some c := ⟨s[j], List.getElem?_eq_getElem hjl⟩
      have hdr : s.drop j = c :: s.drop (j + 1) := by
        have := List.drop_eq_getElem_cons hjl
        rw [List.getElem?_eq_getElem hjl] at hc
        cases hc
        exact this
      have hx := str_index s j c hc
      rw [hdr, litR] at hf
      clear hdr hc
      have kd := digit_any c
      by_cases c1 : c = 46
      · subst c1
        rw [show hix 46 = -1 by decide] at kd
        cases p
        · by_cases c2 : 0 < n
          · rw [if_pos ⟨rfl, rfl, c2⟩] at hf
            have hfH : Hidden (litR (s.drop (j + 1)) m n b true = R) := hf
            clear hf
            go_wp2_with (go_at_call 178; refine (kd _).mono ?_; rintro e w' ⟨rfl, rfl⟩)
            go_roundg (s.length - (j + 1))
            case measure =>
              have : gk = s.length - j := hgkH
              omega
            case rel => exact ⟨j + 1, m, n, b, true, rfl, rfl, rfl, rfl, by go_num, by omega, by omega, hb, hmH, hfH, rfl, rfl⟩
          · obtain rfl : n = 0 := by omega
            rw [if_neg (fun g => c2 g.2.2), isd_point, if_neg (show ¬ (false = true) by simp)] at hf
            subst hf
            go_wp2_with (go_at_call 178; refine (kd _).mono ?_; rintro e w' ⟨rfl, rfl⟩)
            go_ret2
            exact ⟨rfl, Kb.refl _⟩
        · rw [if_neg (by simp), isd_point, if_neg (show ¬ (false = true) by simp)] at hf
          subst hf
          go_wp2_with (go_at_call 178; refine (kd _).mono ?_; rintro e w' ⟨rfl, rfl⟩)
          go_ret2
          exact ⟨rfl, Kb.refl _⟩
      · rw [if_neg (fun g => c1 g.1)] at hf
        have c1' : ((c.toNat : Int) == 46) = false := by
          simp only [beq_eq_false_iff_ne, ne_eq]
          intro h
          exact c1 (UInt8.toNat_inj.1 (show c.toNat = 46 by omega))
        clear c1
        rcases hix_isd c with ⟨k1, k2⟩ | ⟨k1, k2⟩
        · rw [if_pos k1] at hf
          obtain ⟨D, hD, hD9⟩ := isd_lt c k1
          have hDi : hix c = (D : Int) := by omega
          rw [hDi] at kd
          have hst : stepD m c = m * 10 + D := by unfold stepD; rw [hD, Nat.add_sub_cancel]
          rw [hst] at hf
          clear hDi hst k1 k2 hD
          by_cases c2 : n + 1 ≤ 15
          · rw [if_pos c2] at hf
            have hp2 : Hidden (m * 10 + D < capPow (n + 1)) := cap_step m n D hmH c2 hD9
            cases p
            · have hfH : Hidden (litR (s.drop (j + 1)) (m * 10 + D) (n + 1) b false = R) := hf
              clear hf
              go_wp2_with (go_at_call 178; refine (kd _).mono ?_; rintro e w' ⟨rfl, rfl⟩)
              go_roundg (s.length - (j + 1))
              case measure =>
                have : gk = s.length - j := hgkH
                omega
              case rel => exact ⟨j + 1, m * 10 + D, n + 1, b, false, by go_num, by go_num, rfl, rfl, by go_num, by omega, by omega, by omega, hp2, hfH, rfl, rfl⟩
            · have hfH : Hidden (litR (s.drop (j + 1)) (m * 10 + D) (n + 1) (b + 1) true = R) := hf
              clear hf
              go_wp2_with (go_at_call 178; refine (kd _).mono ?_; rintro e w' ⟨rfl, rfl⟩)
              go_roundg (s.length - (j + 1))
              case measure =>
                have : gk = s.length - j := hgkH
                omega
              case rel => exact ⟨j + 1, m * 10 + D, n + 1, b + 1, true, by go_num, by go_num, by go_num, rfl, by go_num, by omega, by omega, by omega, hp2, hfH, rfl, rfl⟩
          · rw [if_neg c2] at hf
            have hp2 : Hidden (m < capPow (n + 1)) := cap_keep m n hmH c2
            cases p
            · have hfH : Hidden (litR (s.drop (j + 1)) m (n + 1) b false = R) := hf
              clear hf
              go_wp2_with (go_at_call 178; refine (kd _).mono ?_; rintro e w' ⟨rfl, rfl⟩)
              go_roundg (s.length - (j + 1))
              case measure =>
                have : gk = s.length - j := hgkH
                omega
              case rel => exact ⟨j + 1, m, n + 1, b, false, rfl, by go_num, rfl, rfl, by go_num, by omega, by omega, by omega, hp2, hfH, rfl, rfl⟩
            · have hfH : Hidden (litR (s.drop (j + 1)) m (n + 1) (b + 1) true = R) := hf
              clear hf
              go_wp2_with (go_at_call 178; refine (kd _).mono ?_; rintro e w' ⟨rfl, rfl⟩)
              go_roundg (s.length - (j + 1))
              case measure =>
                have : gk = s.length - j := hgkH
                omega
              case rel => exact ⟨j + 1, m, n + 1, b + 1, true, rfl, by go_num, by go_num, rfl, by go_num, by omega, by omega, by omega, hp2, hfH, rfl, rfl⟩
        · rw [k1, if_neg (show ¬ (false = true) by simp)] at hf
          subst hf
          clear k1
          rcases k2 with k2 | k2
          all_goals
            generalize hix c = D at *
            go_wp2_with (go_at_call 178; refine (kd _).mono ?_; rintro e w' ⟨rfl, rfl⟩)
            go_ret2
            exact ⟨rfl, Kb.refl _⟩
    · obtain rfl : j = s.length := by omega
      rw [List.drop_length, litR] at hf
      subst hf
      by_cases c1 : b = 0
      · subst c1
        go_wp2
        go_ret2
        exact ⟨rfl, Kb.refl _⟩
      · have c1' : ((b : Int) == 0) = false := by
          simp only [beq_eq_false_iff_ne, ne_eq]
          omega
        by_cases c2 : 15 < n
        · have e : Hidden (outR (some (m, n, b)) = (0, 3)) := by show _ = _; simp [outR, c1, c2]
          go_wp2
          go_ret2
          exact ⟨by rw [show outR (some (m, n, b)) = _ from e]; rfl, Kb.refl _⟩
        · have e : Hidden (outR (some (m, n, b)) = (((quoS m (10 ^ b) : Nat) : Int), 0)) := by show _ = _; simp [outR, c1, c2]
          have hpb := pow10_le b (by omega)
          have hpb0 : 10 ^ b ≠ 0 := by have := Nat.pow_pos (n := b) (show 0 < 10 by decide); omega
          obtain ⟨hq1, hq2⟩ := quoS_some m (10 ^ b) (by omega) (by omega) hpb0
          have hrun := run_float_arith (P := Tryz.prog) wr .quo 203 .f64 _ _ _ hq1
          have hbt := run_bits (quoS m (10 ^ b) : Nat) (U_of_bits hq1)
          simp only [Int.toNat_natCast] at hbt
          generalize quoS m (10 ^ b) = V at *
          generalize hPP : 10 ^ b = PP at *
          have hPH : Hidden (10 ^ b = PP) := hPP
          clear hPP hq1 hpb0 c1 hmH hgkH
          go_wp2
          go_loopg [10, 11] b (fun k kv iv wx => ∃ j p : Nat, kv = .int .i64 (p : Int) ∧ iv = .int .i64 (j : Int) ∧ p = 10 ^ j ∧ j ≤ b ∧ k = b - j ∧ wx = wr)
          case atStart => exact ⟨0, 1, rfl, rfl, by simp, by omega, rfl, rfl⟩
          case round =>
            obtain ⟨i, p, rfl, rfl, hp, hi, hgk2, rfl⟩ := hrel
            have hgkH2 : Hidden (gk = b - i) := hgk2
            have hpb := pow10_le i (by omega)
            rw [← hp] at hpb
            have hpH : Hidden (p = 10 ^ i) := hp
            clear hp hgk2
            by_cases hia : i < b
            · have hpn : Hidden (p * 10 = 10 ^ (i + 1)) := by
                show _ = _
                rw [Nat.pow_succ, ← show p = 10 ^ i from hpH]
              go_wp2
              go_roundg (b - (i + 1))
              case measure =>
                have : gk = b - i := hgkH2
                omega
              case rel => exact ⟨i + 1, p * 10, by go_num, by go_num, hpn, by omega, rfl, rfl⟩
            · obtain rfl : i = b := by omega
              obtain rfl : p = PP := (show p = _ from hpH).trans hPH
              go_wp2
              go_ret2
              exact ⟨by rw [show outR _ = _ from e]; rfl, Kb.refl _⟩
theorem rlit_any (s : List UInt8) (v e : Int) (h : litS s = (v, e)) (hs : s.length ≤ 9223372036854775807) (w : World) :
    Calls Tryz.prog 143 #[.string ⟨s.toArray⟩] w fun r w' => r = .returned (.tuple #[.int .u64 v, .int .i64 e]) ∧ Kb w w' := by
  have k := rlit_walk s _ rfl hs w
  rw [litR_litS, h] at k
  exact k
end Go.Proofs.YteijjaabngkbjaaGreatDoor.F
