/- Plain: texts of right instructions are unlike where the instructions are; so are their bytes. -/
import Derived.Test.YtnmcehpdiopaiaaGreatDoorCdT
namespace Go.Proofs.YtnmcehpdiopaiaaGreatDoor.Cd
open Go.RowKit Ty
set_option linter.unusedSimpArgs false
set_option linter.unusedVariables false

theorem itoa_low (n : Int) : ∀ c ∈ Lib.itoa n, c ≤ 57 := by
  intro c hc
  have hd : ∀ m : Nat, ∀ c ∈ Lib.decDigits m, c ≤ 57 := fun m c hc => by
    have := List.all_eq_true.1 (D.dec_facts m).1 c hc
    simp only [D.isd, Bool.and_eq_true, decide_eq_true_eq] at this
    exact UInt8.le_iff_toNat_le.2 this.2
  unfold Lib.itoa at hc
  split at hc
  · rcases List.mem_cons.1 hc with rfl | hc
    · decide
    · exact hd _ c hc
  · exact hd _ c hc
theorem float_looks (a : Int) : ∃ c r, F.textS a = c :: r ∧ (c = 45 ∨ c = 110 ∨ c = 105 ∨ c = 48) ∧ ∃ d ∈ c :: r, 57 < d := by
  unfold F.textS F.sizeL
  split
  · split
    · exact ⟨45, _, rfl, by simp, 110, by simp, by decide⟩
    split
    · exact ⟨45, _, rfl, by simp, 105, by simp, by decide⟩
    split
    · exact ⟨45, _, rfl, by simp, 120, by simp, by decide⟩
    · exact ⟨45, _, rfl, by simp, 120, by simp, by decide⟩
  · split
    · exact ⟨110, _, rfl, by simp, 110, by simp, by decide⟩
    split
    · exact ⟨105, _, rfl, by simp, 105, by simp, by decide⟩
    split
    · exact ⟨48, _, rfl, by simp, 120, by simp, by decide⟩
    · exact ⟨48, _, rfl, by simp, 120, by simp, by decide⟩
theorem truth_looks (b : Int) : ∃ c r, truthS b = c :: r ∧ (c = 102 ∨ c = 116) := by
  unfold truthS
  split
  · exact ⟨_, _, rfl, by simp⟩
  · exact ⟨_, _, rfl, by simp⟩
theorem show_inj {t b t' b' : Int} (hb : U64 b) (hb' : U64 b') (r : rightV t b = true) (r' : rightV t' b' = true) (h : showS t b = showS t' b') : t = t' ∧ b = b' := by
  have no12 : ∀ x y, Lib.itoa x = F.textS y → False := fun x y e => by
    obtain ⟨c, q, e1, _, d, hd, hl⟩ := float_looks y
    rw [e1] at e
    rw [← e] at hd
    exact absurd (itoa_low x d hd) (by rw [UInt8.not_le]; exact hl)
  have no13 : ∀ x y, Lib.itoa x = truthS y → False := fun x y e => by
    obtain ⟨c, q, e1, e2⟩ := truth_looks y
    rw [e1] at e
    have := itoa_low x c (by rw [e]; simp)
    rcases e2 with rfl | rfl <;> exact absurd this (by decide)
  have no23 : ∀ x y, F.textS x = truthS y → False := fun x y e => by
    obtain ⟨c, q, e1, e2, _⟩ := float_looks x
    obtain ⟨c', q', e1', e2'⟩ := truth_looks y
    rw [e1, e1'] at e
    simp only [List.cons.injEq] at e
    rw [e.1] at e2
    rcases e2' with rfl | rfl <;> revert e2 <;> decide
  have et : t = t' := by
    have hv := right_val r
    have hv' := right_val r'
    rcases (valued_iff t).1 hv with rfl | rfl | rfl <;> rcases (valued_iff t').1 hv' with rfl | rfl | rfl
    · rfl
    · exact (no12 _ _ h).elim
    · exact (no13 _ _ h).elim
    · exact (no12 _ _ h.symm).elim
    · rfl
    · exact (no23 _ _ h).elim
    · exact (no13 _ _ h.symm).elim
    · exact (no23 _ _ h.symm).elim
    · rfl
  subst et
  exact ⟨rfl, showS_inj hb hb' r r' h⟩
theorem split_32 : ∀ {a b x y : Bs}, (∀ c ∈ a, c ≠ 32) → (∀ c ∈ b, c ≠ 32) → a ++ 32 :: x = b ++ 32 :: y → a = b ∧ x = y
  | [], [], x, y, _, _, h => ⟨rfl, by simpa using h⟩
  | [], c :: b, x, y, _, hb, h => by
    simp only [List.nil_append, List.cons_append, List.cons.injEq] at h
    exact absurd h.1.symm (hb c (by simp))
  | c :: a, [], x, y, ha, _, h => by
    simp only [List.nil_append, List.cons_append, List.cons.injEq] at h
    exact absurd h.1 (ha c (by simp))
  | c :: a, d :: b, x, y, ha, hb, h => by
    simp only [List.cons_append, List.cons.injEq] at h
    have e := split_32 (a := a) (b := b) (fun t ht => ha t (by simp [ht])) (fun t ht => hb t (by simp [ht])) h.2
    exact ⟨by rw [h.1, e.1], e.2⟩
theorem nm_facts (op : Int) : (nmS op).all (fun c => c != 32) = true ∧ nmS op ≠ [] := by
  unfold nmS
  by_cases c1 : op = 1
  · rw [if_pos c1]; decide
  by_cases c2 : op = 2
  · rw [if_neg c1, if_pos c2]; decide
  by_cases c3 : op = 3
  · rw [if_neg c1, if_neg c2, if_pos c3]; decide
  by_cases c4 : op = 4
  · rw [if_neg c1, if_neg c2, if_neg c3, if_pos c4]; decide
  rw [if_neg c1, if_neg c2, if_neg c3, if_neg c4]
  by_cases c5 : op = 5
  · rw [if_pos c5]; decide
  by_cases c6 : op = 6
  · rw [if_neg c5, if_pos c6]; decide
  by_cases c7 : op = 7
  · rw [if_neg c5, if_neg c6, if_pos c7]; decide
  by_cases c8 : op = 8
  · rw [if_neg c5, if_neg c6, if_neg c7, if_pos c8]; decide
  rw [if_neg c5, if_neg c6, if_neg c7, if_neg c8]
  by_cases c9 : op = 9
  · rw [if_pos c9]; decide
  by_cases c10 : op = 10
  · rw [if_neg c9, if_pos c10]; decide
  by_cases c11 : op = 11
  · rw [if_neg c9, if_neg c10, if_pos c11]; decide
  by_cases c12 : op = 12
  · rw [if_neg c9, if_neg c10, if_neg c11, if_pos c12]; decide
  rw [if_neg c9, if_neg c10, if_neg c11, if_neg c12]
  by_cases c13 : op = 13
  · rw [if_pos c13]; decide
  by_cases c14 : op = 14
  · rw [if_neg c13, if_pos c14]; decide
  by_cases c15 : op = 15
  · rw [if_neg c13, if_neg c14, if_pos c15]; decide
  by_cases c16 : op = 16
  · rw [if_neg c13, if_neg c14, if_neg c15, if_pos c16]; decide
  rw [if_neg c13, if_neg c14, if_neg c15, if_neg c16]; decide
theorem nm_no32 (op : Int) : ∀ c ∈ nmS op, c ≠ 32 := fun c hc => by
  simpa using List.all_eq_true.1 (nm_facts op).1 c hc
theorem nm_pos (op : Int) : nmS op ≠ [] := (nm_facts op).2
theorem nm_fin : ∀ a b : Fin 17, nmS ((a.val : Int) + 1) = nmS ((b.val : Int) + 1) → a = b := by decide
theorem nm_inj {a b : Int} (ha : known a = true) (hb : known b = true) (h : nmS a = nmS b) : a = b := by
  simp only [known, decide_eq_true_eq] at ha hb
  have := nm_fin ⟨(a - 1).toNat, by omega⟩ ⟨(b - 1).toNat, by omega⟩ (by
    simp only []
    rw [show (((a - 1).toNat : Nat) : Int) + 1 = a by omega, show (((b - 1).toNat : Nat) : Int) + 1 = b by omega]
    exact h)
  simp only [Fin.mk.injEq] at this
  omega
theorem un_fin : ∀ a b : Fin 4, unW ((a.val : Int) + 1) = unW ((b.val : Int) + 1) → a = b := by decide
theorem bin_fin : ∀ a b : Fin 11, binW ((a.val : Int) + 1) = binW ((b.val : Int) + 1) → a = b := by decide
theorem unW_inj {a b : Int} (a0 : 1 ≤ a) (a1 : a ≤ 4) (b0 : 1 ≤ b) (b1 : b ≤ 4) (h : unW a = unW b) : a = b := by
  have := un_fin ⟨(a - 1).toNat, by omega⟩ ⟨(b - 1).toNat, by omega⟩ (by
    simp only []
    rw [show (((a - 1).toNat : Nat) : Int) + 1 = a by omega, show (((b - 1).toNat : Nat) : Int) + 1 = b by omega]
    exact h)
  simp only [Fin.mk.injEq] at this
  omega
theorem binW_inj {a b : Int} (a0 : 1 ≤ a) (a1 : a ≤ 11) (b0 : 1 ≤ b) (b1 : b ≤ 11) (h : binW a = binW b) : a = b := by
  have := bin_fin ⟨(a - 1).toNat, by omega⟩ ⟨(b - 1).toNat, by omega⟩ (by
    simp only []
    rw [show (((a - 1).toNat : Nat) : Int) + 1 = a by omega, show (((b - 1).toNat : Nat) : Int) + 1 = b by omega]
    exact h)
  simp only [Fin.mk.injEq] at this
  omega
theorem text_head {i : In} (h : rightS i = true) : (∃ r, textS i = nmS i.op ++ 32 :: r ∧ r = operS i ∧ ¬ (i.op ≠ 1 ∧ wd i.op = 0)) ∨ (textS i = nmS i.op ∧ (i.op ≠ 1 ∧ wd i.op = 0)) := by
  unfold textS
  rw [if_pos h]
  by_cases c : i.op ≠ 1 ∧ wd i.op = 0
  · rw [if_pos c]; exact Or.inr ⟨rfl, c⟩
  · rw [if_neg c]; exact Or.inl ⟨operS i, by simp, rfl, c⟩
theorem text_inj {x y : In} (hx : rightS x = true) (hy : rightS y = true) (bx : U64 x.b) (by' : U64 y.b) (h : textS x = textS y) : x = y := by
  have kx := right_parts hx
  have ky := right_parts hy
  have in32 : ∀ (i : In) (r : Bs), (32 : UInt8) ∈ nmS i.op ++ 32 :: r := fun i r => by simp
  have eop : x.op = y.op ∧ operS x = operS y ∨ (x.op = y.op ∧ x.op ≠ 1 ∧ wd x.op = 0) := by
    rcases text_head hx with ⟨r, e1, e2, e3⟩ | ⟨e1, e3⟩ <;> rcases text_head hy with ⟨q, f1, f2, f3⟩ | ⟨f1, f3⟩
    · rw [e1, f1] at h
      obtain ⟨g1, g2⟩ := split_32 (nm_no32 _) (nm_no32 _) h
      exact Or.inl ⟨nm_inj kx.1 ky.1 g1, by rw [← e2, ← f2, g2]⟩
    · rw [e1, f1] at h
      exact absurd rfl (nm_no32 y.op 32 (by rw [← h]; exact in32 x r))
    · rw [e1, f1] at h
      exact absurd rfl (nm_no32 x.op 32 (by rw [h]; exact in32 y q))
    · rw [e1, f1] at h
      exact Or.inr ⟨nm_inj kx.1 ky.1 h, e3⟩
  have eo : x.op = y.op := by rcases eop with e | e <;> exact e.1
  obtain ⟨op, n, t, b⟩ := x
  obtain ⟨op', n', t', b'⟩ := y
  simp only at *
  subst eo
  by_cases h1 : op = 1
  · subst h1
    rcases eop with ⟨_, e⟩ | e
    · simp only [operS, if_pos] at e
      have rx := kx.2.1
      have ry := ky.2.1
      rw [if_pos rfl] at rx ry
      obtain ⟨rfl, rfl⟩ := show_inj bx by' rx ry e
      have l1 : lo 1 = 0 := by decide
      have l2 : hi 1 = 0 := by decide
      rw [l1, l2] at kx ky
      have : n = n' := by omega
      rw [this]
    · exact absurd rfl e.2.1
  · have rx := kx.2.1
    have ry := ky.2.1
    rw [if_neg h1] at rx ry
    simp only [Bool.and_eq_true, beq_iff_eq] at rx ry
    have en : n = n' := by
      rcases eop with ⟨_, e⟩ | e
      · simp only [operS, if_neg h1] at e
        by_cases h6 : op = 6
        · subst h6
          simp only [if_pos] at e
          have l1 : lo 6 = 1 := by decide
          have l2 : hi 6 = 4 := by decide
          rw [l1, l2] at kx ky
          exact unW_inj (by omega) (by omega) (by omega) (by omega) e
        by_cases h7 : op = 7
        · subst h7
          have e : binW n = binW n' := by simpa using e
          have l1 : lo 7 = 1 := by decide
          have l2 : hi 7 = 11 := by decide
          rw [l1, l2] at kx ky
          exact binW_inj (by omega) (by omega) (by omega) (by omega) e
        rw [if_neg h6, if_neg h6, if_neg h7, if_neg h7] at e
        exact itoa_inj e
      · have l1 : lo op = 0 := by
          unfold lo
          rw [if_neg]
          rintro (e1 | e1) <;> subst e1 <;> exact absurd e.2.2 (by decide)
        have l2 : hi op = 0 := by
          unfold hi
          rw [if_neg (fun e1 => by subst e1; exact absurd e.2.2 (by decide)), if_neg (fun e1 => by subst e1; exact absurd e.2.2 (by decide)), e.2.2]
          decide
        rw [l1, l2] at kx ky
        omega
    rw [en, rx.1, rx.2, ry.1, ry.2]
theorem text_pos {i : In} (h : rightS i = true) : textS i ≠ [] := by
  rcases text_head h with ⟨r, e1, _⟩ | ⟨e1, _⟩
  · rw [e1]
    intro e
    exact nm_pos i.op (List.append_eq_nil_iff.1 e).1
  · rw [e1]; exact nm_pos _
theorem encI_inj {x y : In} (hx : rightS x = true) (hy : rightS y = true) (bx : U64 x.b) (by' : U64 y.b) (h : encI x = encI y) : x = y := by
  have a := first_enc hx bx []
  have b := first_enc hy by' []
  rw [h, b] at a
  exact (Option.some.inj a).symm
theorem decGo_enc : ∀ (l : List In) (j : Nat) (acc : List In), (∀ i ∈ l, rightS i = true ∧ U64 i.b) → (encS l).length < j → acc.length + l.length ≤ 4096 → decGo j acc (encS l) = (0, acc ++ l)
  | [], j + 1, acc, _, _, _ => by simp [encS, decGo]
  | [], 0, acc, _, h, _ => absurd h (by omega)
  | i :: l, 0, acc, _, h, _ => absurd h (by omega)
  | i :: l, j + 1, acc, hl, hj, hn => by
    have hi := hl i (by simp)
    have hk := (right_parts hi.1).1
    obtain ⟨q, e1, e2⟩ := enc_head hk
    have hlen := encI_len hk
    have hf := first_enc hi.1 hi.2 (encS l)
    have ee : encS (i :: l) = encI i ++ encS l := by simp [encS]
    have hs := size_pos hk
    rw [ee] at hj ⊢
    simp only [List.length_append] at hj
    have hd : (encI i ++ encS l).drop (sizeS i.op).toNat = encS l := by
      rw [← hlen, Int.toNat_natCast]
      simp
    have hlt : ¬ acc.length = 4096 := by simp only [List.length_cons] at hn; omega
    have ih := decGo_enc l j (acc ++ [i]) (fun x hx => hl x (by simp [hx])) (by omega) (by simp only [List.length_cons, List.length_append, List.length_nil] at hn ⊢; omega)
    rw [e1] at hf hd ⊢
    simp only [List.cons_append] at hf hd ⊢
    simp only [decGo, hf, if_neg hlt, e2, hd]
    rw [ih]
    simp
theorem decGo_ok : ∀ (j : Nat) (acc : List In) (b : Bs) (r : List In), b.length < j → decGo j acc b = (0, r) → acc.length ≤ 4096 → ∃ l, r = acc ++ l ∧ b = encS l ∧ (∀ i ∈ l, rightS i = true ∧ U64 i.b) ∧ r.length ≤ 4096
  | 0, acc, b, r, h, _, _ => absurd h (by omega)
  | j + 1, acc, [], r, h, e, ha => by
    simp only [decGo, Prod.mk.injEq, true_and] at e
    subst e
    exact ⟨[], by simp, rfl, by simp, ha⟩
  | j + 1, acc, c :: b, r, h, e, ha => by
    simp only [decGo] at e
    cases hf : firstS (c :: b) with
    | none => rw [hf] at e; simp at e
    | some i =>
      rw [hf] at e
      simp only at e
      obtain ⟨d1, d2, d3, d4⟩ := first_dec hf
      have hop : (c.toNat : Int) = i.op := by simpa using d4
      by_cases h4 : acc.length = 4096
      · rw [if_pos h4] at e; simp at e
      · rw [if_neg h4] at e
        have hs := size_pos (right_parts d1).1
        obtain ⟨l, e1, e2, e3, e4⟩ := decGo_ok j (acc ++ [i]) _ r (by
          rw [List.length_drop, hop]
          simp only [List.length_cons] at h ⊢
          omega) e (by simp; omega)
        refine ⟨i :: l, by rw [e1]; simp, ?_, ?_, e4⟩
        · rw [d2, ← hop, e2]
          simp [encS]
        · intro x hx
          rcases List.mem_cons.1 hx with rfl | hx
          · exact ⟨d1, d3⟩
          · exact e3 x hx
theorem decGo_err : ∀ (j : Nat) (acc : List In) (b : Bs), b.length < j → (decGo j acc b).1 ≠ 0 → (decGo j acc b).2 = []
  | 0, acc, b, h, _ => rfl
  | j + 1, acc, [], h, e => absurd rfl e
  | j + 1, acc, c :: b, h, e => by
    simp only [decGo] at e ⊢
    cases hf : firstS (c :: b) with
    | none => rfl
    | some i =>
      rw [hf] at e
      simp only at e ⊢
      obtain ⟨d1, d2, d3, d4⟩ := first_dec hf
      have hop : (c.toNat : Int) = i.op := by simpa using d4
      by_cases h4 : acc.length = 4096
      · rw [if_pos h4]
      · rw [if_neg h4] at e ⊢
        have hs := size_pos (right_parts d1).1
        exact decGo_err j _ _ (by
          rw [List.length_drop, hop]
          simp only [List.length_cons] at h ⊢
          omega) e
end Go.Proofs.YtnmcehpdiopaiaaGreatDoor.Cd
