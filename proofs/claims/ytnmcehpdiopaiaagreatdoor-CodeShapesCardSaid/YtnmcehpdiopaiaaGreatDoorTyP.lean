/- Texts of right items are unlike where the items are; so are values shown. -/
import Derived.Test.YtnmcehpdiopaiaaGreatDoorTyAll
import Derived.Test.YtnmcehpdiopaiaaGreatDoorFxT
namespace Go.Proofs.YtnmcehpdiopaiaaGreatDoor.Ty
open Go.RowKit
set_option linter.unusedSimpArgs false
set_option linter.unusedVariables false

theorem itoa_inj {a b : Int} (h : Lib.itoa a = Lib.itoa b) : a = b := by
  obtain ⟨a1, a2, a3, _⟩ := D.dec_facts a.natAbs
  obtain ⟨b1, b2, b3, _⟩ := D.dec_facts b.natAbs
  have hno : ∀ (n : Nat) (l : List UInt8), (Lib.decDigits n).all D.isd = true → 45 :: l = Lib.decDigits n → False := by
    intro n l h1 h2
    rw [← h2] at h1
    simp [D.isd] at h1
  unfold Lib.itoa at h
  by_cases ha : a < 0
  · by_cases hb : b < 0
    · rw [if_pos ha, if_pos hb] at h
      have : Lib.decDigits a.natAbs = Lib.decDigits b.natAbs := by simpa using h
      rw [this, b2] at a2
      omega
    · rw [if_pos ha, if_neg hb] at h
      rw [show b.toNat = b.natAbs by omega] at h
      exact (hno _ _ b1 h).elim
  · by_cases hb : b < 0
    · rw [if_neg ha, if_pos hb] at h
      rw [show a.toNat = a.natAbs by omega] at h
      exact (hno _ _ a1 h.symm).elim
    · rw [if_neg ha, if_neg hb] at h
      rw [show a.toNat = a.natAbs by omega, show b.toNat = b.natAbs by omega] at h
      rw [h, b2] at a2
      omega
theorem showS_inj {t a b : Int} (ha : U64 a) (hb : U64 b) (ra : rightV t a = true) (rb : rightV t b = true) (h : showS t a = showS t b) : a = b := by
  unfold showS at h
  unfold rightV at ra rb
  by_cases h1 : t = 1
  · rw [if_pos h1, if_pos h1] at h
    have := itoa_inj h
    unfold wrap64 at this
    obtain ⟨_, _⟩ := ha
    obtain ⟨_, _⟩ := hb
    omega
  rw [if_neg h1] at h ra rb
  rw [if_neg h1] at h
  by_cases h2 : t = 2
  · rw [if_pos h2] at ra rb h
    rw [if_pos h2] at h
    have e1 := F.parse_text a ⟨ha.1, ha.2⟩
    have e2 := F.parse_text b ⟨hb.1, hb.2⟩
    rw [h, e2] at e1
    have := congrArg Prod.fst e1
    simp only [beq_iff_eq] at ra rb
    simp only at this
    rw [ra, rb] at this
    exact this.symm
  rw [if_neg h2] at h ra rb
  rw [if_neg h2] at h
  by_cases h3 : t = 3
  · rw [if_pos h3] at ra rb h
    rw [if_pos h3] at h
    simp only [decide_eq_true_eq] at ra rb
    have := ha.1
    have := hb.1
    unfold truthS at h
    by_cases a0 : a = 0
    · by_cases b0 : b = 0
      · omega
      · rw [if_pos a0, if_neg b0] at h; simp at h
    · by_cases b0 : b = 0
      · rw [if_neg a0, if_pos b0] at h; simp at h
      · omega
  · rw [if_neg h3] at ra; cases ra
theorem split_at (p : UInt8 → Bool) : ∀ (a b : Bs) (c d : UInt8) (x y : Bs), a.all p = true → b.all p = true → p c = false → p d = false → a ++ c :: x = b ++ d :: y → a = b ∧ c = d ∧ x = y
  | [], [], c, d, x, y, _, _, _, _, h => by
    simp only [List.nil_append, List.cons.injEq] at h
    exact ⟨rfl, h.1, h.2⟩
  | [], e :: b, c, d, x, y, _, hb, hc, _, h => by
    simp only [List.nil_append, List.cons_append, List.cons.injEq] at h
    simp only [List.all_cons, Bool.and_eq_true] at hb
    rw [h.1, hb.1] at hc
    cases hc
  | e :: a, [], c, d, x, y, ha, _, _, hd, h => by
    simp only [List.nil_append, List.cons_append, List.cons.injEq] at h
    simp only [List.all_cons, Bool.and_eq_true] at ha
    rw [← h.1, ha.1] at hd
    cases hd
  | e :: a, f :: b, c, d, x, y, ha, hb, hc, hd, h => by
    simp only [List.cons_append, List.cons.injEq] at h
    simp only [List.all_cons, Bool.and_eq_true] at ha hb
    obtain ⟨h1, h2, h3⟩ := split_at p a b c d x y ha.2 hb.2 hc hd h.2
    exact ⟨by rw [h.1, h1], h2, h3⟩
theorem name_ld {s : Bs} (h : N.rightS s = 0) : s.all N.ld = true := by
  unfold N.rightS at h
  cases hs : N.speltS s
  · rw [hs] at h; simp at h
  · cases s with
    | nil => rfl
    | cons c r =>
      rw [N.spelt_cons (c :: r) c rfl, Bool.and_eq_true] at hs
      exact hs.2
theorem nameS_ld (t : Int) : (nameS t).all N.ld = true := by
  unfold nameS
  split
  · decide
  · split
    · decide
    · split <;> decide
theorem nameS_inj {t u : Int} (ht : valued t = true) (hu : valued u = true) (h : nameS t = nameS u) : t = u := by
  rw [valued_iff] at ht hu
  rcases ht with rfl | rfl | rfl <;> rcases hu with rfl | rfl | rfl <;> first | rfl | (exact absurd h (by decide))
theorem nameS_head {t : Int} (ht : valued t = true) : ∃ c r, nameS t = c :: r ∧ N.ld c = true := by
  rw [valued_iff] at ht
  rcases ht with rfl | rfl | rfl
  · exact ⟨105, [110, 116], rfl, by decide⟩
  · exact ⟨102, [108, 111, 97, 116], rfl, by decide⟩
  · exact ⟨98, [111, 111, 108], rfl, by decide⟩
theorem ld41 : N.ld 41 = false := by decide
theorem ld44 : N.ld 44 = false := by decide
theorem paramsS_cons2 (t u : Int) (r : List Int) : paramsS (t :: u :: r) = nameS t ++ 44 :: 32 :: paramsS (u :: r) := by
  simp [paramsS, joinS]
theorem paramsS_one (t : Int) : paramsS [t] = nameS t := by simp [paramsS, joinS]
theorem paramsS_inj : ∀ (l m : List Int) (x y : Bs), l.all valued = true → m.all valued = true → paramsS l ++ 41 :: x = paramsS m ++ 41 :: y → l = m ∧ x = y
  | [], [], x, y, _, _, h => by
    simp only [paramsS, joinS, List.map_nil, List.nil_append, List.cons.injEq, true_and] at h
    exact ⟨rfl, h⟩
  | [], u :: m, x, y, _, hm, h => by
    exfalso
    simp only [List.all_cons, Bool.and_eq_true] at hm
    obtain ⟨c, r, e, hc⟩ := nameS_head hm.1
    have : ∃ z, paramsS (u :: m) = c :: z := by
      cases m with
      | nil => exact ⟨r, by rw [paramsS_one, e]⟩
      | cons v m => exact ⟨_, by rw [paramsS_cons2, e]; rfl⟩
    obtain ⟨z, hz⟩ := this
    rw [hz] at h
    simp only [paramsS, joinS, List.map_nil, List.nil_append, List.cons_append, List.cons.injEq] at h
    rw [← h.1, ld41] at hc
    cases hc
  | t :: l, [], x, y, hl, _, h => by
    exfalso
    simp only [List.all_cons, Bool.and_eq_true] at hl
    obtain ⟨c, r, e, hc⟩ := nameS_head hl.1
    have : ∃ z, paramsS (t :: l) = c :: z := by
      cases l with
      | nil => exact ⟨r, by rw [paramsS_one, e]⟩
      | cons v m => exact ⟨_, by rw [paramsS_cons2, e]; rfl⟩
    obtain ⟨z, hz⟩ := this
    rw [hz] at h
    simp only [paramsS, joinS, List.map_nil, List.nil_append, List.cons_append, List.cons.injEq] at h
    rw [h.1, ld41] at hc
    cases hc
  | [t], [u], x, y, hl, hm, h => by
    simp only [List.all_cons, Bool.and_eq_true] at hl hm
    rw [paramsS_one, paramsS_one] at h
    obtain ⟨h1, _, h3⟩ := split_at N.ld _ _ _ _ _ _ (nameS_ld t) (nameS_ld u) ld41 ld41 h
    exact ⟨by rw [nameS_inj hl.1 hm.1 h1], h3⟩
  | [t], u :: v :: m, x, y, hl, hm, h => by
    exfalso
    rw [paramsS_one, paramsS_cons2, List.append_assoc, List.cons_append] at h
    obtain ⟨_, h2, _⟩ := split_at N.ld _ _ _ _ _ _ (nameS_ld t) (nameS_ld u) ld41 ld44 h
    exact absurd h2 (by decide)
  | t :: s :: l, [u], x, y, hl, hm, h => by
    exfalso
    rw [paramsS_one, paramsS_cons2, List.append_assoc, List.cons_append] at h
    obtain ⟨_, h2, _⟩ := split_at N.ld _ _ _ _ _ _ (nameS_ld t) (nameS_ld u) ld44 ld41 h
    exact absurd h2 (by decide)
  | t :: s :: l, u :: v :: m, x, y, hl, hm, h => by
    rw [paramsS_cons2, paramsS_cons2, List.append_assoc, List.append_assoc, List.cons_append, List.cons_append] at h
    obtain ⟨h1, _, h3⟩ := split_at N.ld _ _ _ _ _ _ (nameS_ld t) (nameS_ld u) ld44 ld44 h
    have h3' : paramsS (s :: l) ++ 41 :: x = paramsS (v :: m) ++ 41 :: y := by simpa using h3
    rw [List.all_cons, Bool.and_eq_true] at hl hm
    obtain ⟨h4, h5⟩ := paramsS_inj (s :: l) (v :: m) x y hl.2 hm.2 h3'
    exact ⟨by rw [nameS_inj hl.1 hm.1 h1, h4], h5⟩
theorem resultS_inj {t u : Int} (ht : t = 0 ∨ valued t = true) (hu : u = 0 ∨ valued u = true) (h : resultS t = resultS u) : t = u := by
  rw [valued_iff] at ht hu
  rcases ht with rfl | rfl | rfl | rfl <;> rcases hu with rfl | rfl | rfl | rfl <;> first | rfl | (exact absurd h (by decide))
/-- What a right item is. -/
theorem rightI_parts {i : It} (h : rightI i = 0) : N.rightS i.name = 0 ∧ i.params.length ≤ 8 ∧ ((i.kind = 1 ∧ rightV i.typ i.bits = true ∧ i.params = []) ∨ (i.kind = 3 ∧ (i.typ = 0 ∨ valued i.typ = true) ∧ i.bits = 0 ∧ i.params.all valued = true)) := by
  unfold rightI at h
  by_cases hk : i.kind ≠ 1 ∧ i.kind ≠ 3
  · rw [if_pos hk] at h; cases h
  rw [if_neg hk] at h
  by_cases hn : N.rightS i.name = 0
  · rw [if_neg (by simp [hn])] at h
    by_cases h8 : 8 < i.params.length
    · rw [if_pos h8] at h; cases h
    rw [if_neg h8] at h
    refine ⟨hn, by omega, ?_⟩
    by_cases h1 : i.kind = 1
    · rw [if_pos h1] at h
      left
      by_cases hf : fitsConst i = true
      · unfold fitsConst at hf
        simp only [Bool.and_eq_true, decide_eq_true_eq] at hf
        exact ⟨h1, hf.1, List.eq_nil_of_length_eq_zero hf.2⟩
      · rw [if_neg hf] at h; cases h
    · rw [if_neg h1] at h
      right
      by_cases hf : fitsFn i = true
      · unfold fitsFn at hf
        simp only [Bool.and_eq_true, Bool.or_eq_true, beq_iff_eq] at hf
        exact ⟨by omega, hf.1.1, hf.1.2, hf.2⟩
      · rw [if_neg hf] at h; cases h
  · rw [if_pos hn] at h
    exact absurd h hn
theorem rightV_valued {t b : Int} (h : rightV t b = true) : valued t = true := by
  rw [valued_iff]
  unfold rightV at h
  by_cases h1 : t = 1
  · exact Or.inl h1
  by_cases h2 : t = 2
  · exact Or.inr (Or.inl h2)
  by_cases h3 : t = 3
  · exact Or.inr (Or.inr h3)
  rw [if_neg h1, if_neg h2, if_neg h3] at h
  cases h
theorem textI_inj {i j : It} (hi : rightI i = 0) (hj : rightI j = 0) (oi : U64 i.bits) (oj : U64 j.bits) (h : textI i = textI j) : i = j := by
  obtain ⟨n1, _, p1⟩ := rightI_parts hi
  obtain ⟨n2, _, p2⟩ := rightI_parts hj
  have l1 := name_ld n1
  have l2 := name_ld n2
  obtain ⟨k1, nm1, t1, b1, ps1⟩ := i
  obtain ⟨k2, nm2, t2, b2, ps2⟩ := j
  simp only at *
  unfold textI at h
  simp only at h
  rcases p1 with ⟨rfl, r1, rfl⟩ | ⟨rfl, r1, rfl, v1⟩
  · rcases p2 with ⟨rfl, r2, rfl⟩ | ⟨rfl, r2, rfl, v2⟩
    · rw [if_pos rfl, if_pos rfl] at h
      simp only [List.append_assoc, List.append_cancel_left_eq] at h
      simp only [List.cons_append, List.nil_append] at h
      obtain ⟨h1, _, h2⟩ := split_at N.ld _ _ _ _ _ _ l1 l2 (by decide) (by decide) h
      simp only [List.cons.injEq, true_and] at h2
      obtain ⟨h3, _, h4⟩ := split_at N.ld _ _ _ _ _ _ (nameS_ld t1) (nameS_ld t2) (by decide) (by decide) h2
      simp only [List.cons.injEq, true_and] at h4
      obtain rfl := nameS_inj (rightV_valued r1) (rightV_valued r2) h3
      obtain rfl := showS_inj oi oj r1 r2 h4
      rw [h1]
    · rw [if_pos rfl, if_neg (by decide), if_pos rfl] at h
      simp at h
  · rcases p2 with ⟨rfl, r2, rfl⟩ | ⟨rfl, r2, rfl, v2⟩
    · rw [if_neg (by decide), if_pos rfl, if_pos rfl] at h
      simp at h
    · rw [if_neg (by decide), if_pos rfl, if_neg (by decide), if_pos rfl] at h
      simp only [List.append_assoc, List.append_cancel_left_eq] at h
      simp only [List.cons_append, List.nil_append] at h
      obtain ⟨h1, _, h2⟩ := split_at N.ld _ _ _ _ _ _ l1 l2 (by decide) (by decide) h
      obtain ⟨h3, h4⟩ := paramsS_inj _ _ _ _ v1 v2 h2
      obtain rfl := resultS_inj r1 r2 h4
      rw [h1, h3]
theorem textI_iff {i j : It} (hi : rightI i = 0) (hj : rightI j = 0) (oi : U64 i.bits) (oj : U64 j.bits) : (textI i == textI j) = decide (i = j) := by
  rw [Bool.eq_iff_iff, beq_iff_eq, decide_eq_true_eq]
  exact ⟨textI_inj hi hj oi oj, fun e => by rw [e]⟩
end Go.Proofs.YtnmcehpdiopaiaaGreatDoor.Ty
