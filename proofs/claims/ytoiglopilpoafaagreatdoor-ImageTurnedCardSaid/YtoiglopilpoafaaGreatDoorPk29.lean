/- Texts of ours, in one. -/
import Derived.Test.YtoiglopilpoafaaGreatDoorPk10
import Derived.Test.YtoiglopilpoafaaGreatDoorPk5
import Derived.Test.YtoiglopilpoafaaGreatDoorPk28
namespace Go.Proofs.YtoiglopilpoafaaGreatDoor.Cd
open Go.RowKit Ty
set_option linter.unusedSimpArgs false
set_option linter.unusedVariables false

theorem itoa_low (n : Int) : ∀ c ∈ Lib.itoa n, c ≤ 57 := by
  intro c hc
  have hd : ∀ m : Nat, ∀ c ∈ Lib.decDigits m, c ≤ 57 := fun m c hc => by
    have := List.all_eq_true.1 (D.dec_facts m).1 c hc
    simp only [D.isd, Bool.and_eq_true, decide_eq_true_eq] at this
    exact UInt8.le_iff_toNat_le.2 this.2
  unfold Lib.itoa at hc
  split at hc
  · rcases List.mem_cons.1 hc with rfl | hc
    · decide
    · exact hd _ c hc
  · exact hd _ c hc
theorem float_looks (a : Int) : ∃ c r, F.textS a = c :: r ∧ (c = 45 ∨ c = 110 ∨ c = 105 ∨ c = 48) ∧ ∃ d ∈ c :: r, 57 < d := by
  unfold F.textS F.sizeL
  split
  · split
    · exact ⟨45, _, rfl, by simp, 110, by simp, by decide⟩
    split
    · exact ⟨45, _, rfl, by simp, 105, by simp, by decide⟩
    split
    · exact ⟨45, _, rfl, by simp, 120, by simp, by decide⟩
    · exact ⟨45, _, rfl, by simp, 120, by simp, by decide⟩
  · split
    · exact ⟨110, _, rfl, by simp, 110, by simp, by decide⟩
    split
    · exact ⟨105, _, rfl, by simp, 105, by simp, by decide⟩
    split
    · exact ⟨48, _, rfl, by simp, 120, by simp, by decide⟩
    · exact ⟨48, _, rfl, by simp, 120, by simp, by decide⟩
theorem truth_looks (b : Int) : ∃ c r, truthS b = c :: r ∧ (c = 102 ∨ c = 116) := by
  unfold truthS
  split
  · exact ⟨_, _, rfl, by simp⟩
  · exact ⟨_, _, rfl, by simp⟩
theorem show_inj {t b t' b' : Int} (hb : U64 b) (hb' : U64 b') (r : rightV t b = true) (r' : rightV t' b' = true) (h : showS t b = showS t' b') : t = t' ∧ b = b' := by
  have no12 : ∀ x y, Lib.itoa x = F.textS y → False := fun x y e => by
    obtain ⟨c, q, e1, _, d, hd, hl⟩ := float_looks y
    rw [e1] at e
    rw [← e] at hd
    exact absurd (itoa_low x d hd) (by rw [UInt8.not_le]; exact hl)
  have no13 : ∀ x y, Lib.itoa x = truthS y → False := fun x y e => by
    obtain ⟨c, q, e1, e2⟩ := truth_looks y
    rw [e1] at e
    have := itoa_low x c (by rw [e]; simp)
    rcases e2 with rfl | rfl <;> exact absurd this (by decide)
  have no23 : ∀ x y, F.textS x = truthS y → False := fun x y e => by
    obtain ⟨c, q, e1, e2, _⟩ := float_looks x
    obtain ⟨c', q', e1', e2'⟩ := truth_looks y
    rw [e1, e1'] at e
    simp only [List.cons.injEq] at e
    rw [e.1] at e2
    rcases e2' with rfl | rfl <;> revert e2 <;> decide
  have et : t = t' := by
    have hv := right_val r
    have hv' := right_val r'
    rcases (valued_iff t).1 hv with rfl | rfl | rfl <;> rcases (valued_iff t').1 hv' with rfl | rfl | rfl
    · rfl
    · exact (no12 _ _ h).elim
    · exact (no13 _ _ h).elim
    · exact (no12 _ _ h.symm).elim
    · rfl
    · exact (no23 _ _ h).elim
    · exact (no13 _ _ h.symm).elim
    · exact (no23 _ _ h.symm).elim
    · rfl
  subst et
  exact ⟨rfl, showS_inj hb hb' r r' h⟩
theorem split_32 : ∀ {a b x y : Bs}, (∀ c ∈ a, c ≠ 32) → (∀ c ∈ b, c ≠ 32) → a ++ 32 :: x = b ++ 32 :: y → a = b ∧ x = y
  | [], [], x, y, _, _, h => ⟨rfl, by simpa using h⟩
  | [], c :: b, x, y, _, hb, h => by
    simp only [List.nil_append, List.cons_append, List.cons.injEq] at h
    exact absurd h.1.symm (hb c (by simp))
  | c :: a, [], x, y, ha, _, h => by
    simp only [List.nil_append, List.cons_append, List.cons.injEq] at h
    exact absurd h.1 (ha c (by simp))
  | c :: a, d :: b, x, y, ha, hb, h => by
    simp only [List.cons_append, List.cons.injEq] at h
    have e := split_32 (a := a) (b := b) (fun t ht => ha t (by simp [ht])) (fun t ht => hb t (by simp [ht])) h.2
    exact ⟨by rw [h.1, e.1], e.2⟩
theorem nm_facts (op : Int) : (nmS op).all (fun c => c != 32) = true ∧ nmS op ≠ [] := by
  unfold nmS
  by_cases c1 : op = 1
  · rw [if_pos c1]; decide
  by_cases c2 : op = 2
  · rw [if_neg c1, if_pos c2]; decide
  by_cases c3 : op = 3
  · rw [if_neg c1, if_neg c2, if_pos c3]; decide
  by_cases c4 : op = 4
  · rw [if_neg c1, if_neg c2, if_neg c3, if_pos c4]; decide
  rw [if_neg c1, if_neg c2, if_neg c3, if_neg c4]
  by_cases c5 : op = 5
  · rw [if_pos c5]; decide
  by_cases c6 : op = 6
  · rw [if_neg c5, if_pos c6]; decide
  by_cases c7 : op = 7
  · rw [if_neg c5, if_neg c6, if_pos c7]; decide
  by_cases c8 : op = 8
  · rw [if_neg c5, if_neg c6, if_neg c7, if_pos c8]; decide
  rw [if_neg c5, if_neg c6, if_neg c7, if_neg c8]
  by_cases c9 : op = 9
  · rw [if_pos c9]; decide
  by_cases c10 : op = 10
  · rw [if_neg c9, if_pos c10]; decide
  by_cases c11 : op = 11
  · rw [if_neg c9, if_neg c10, if_pos c11]; decide
  by_cases c12 : op = 12
  · rw [if_neg c9, if_neg c10, if_neg c11, if_pos c12]; decide
  rw [if_neg c9, if_neg c10, if_neg c11, if_neg c12]
  by_cases c13 : op = 13
  · rw [if_pos c13]; decide
  by_cases c14 : op = 14
  · rw [if_neg c13, if_pos c14]; decide
  by_cases c15 : op = 15
  · rw [if_neg c13, if_neg c14, if_pos c15]; decide
  by_cases c16 : op = 16
  · rw [if_neg c13, if_neg c14, if_neg c15, if_pos c16]; decide
  rw [if_neg c13, if_neg c14, if_neg c15, if_neg c16]; decide
theorem nm_no32 (op : Int) : ∀ c ∈ nmS op, c ≠ 32 := fun c hc => by
  simpa using List.all_eq_true.1 (nm_facts op).1 c hc
theorem nm_pos (op : Int) : nmS op ≠ [] := (nm_facts op).2
theorem nm_fin : ∀ a b : Fin 17, nmS ((a.val : Int) + 1) = nmS ((b.val : Int) + 1) → a = b := by decide
theorem nm_inj {a b : Int} (ha : known a = true) (hb : known b = true) (h : nmS a = nmS b) : a = b := by
  simp only [known, decide_eq_true_eq] at ha hb
  have := nm_fin ⟨(a - 1).toNat, by omega⟩ ⟨(b - 1).toNat, by omega⟩ (by
    simp only []
    rw [show (((a - 1).toNat : Nat) : Int) + 1 = a by omega, show (((b - 1).toNat : Nat) : Int) + 1 = b by omega]
    exact h)
  simp only [Fin.mk.injEq] at this
  omega
theorem un_fin : ∀ a b : Fin 4, unW ((a.val : Int) + 1) = unW ((b.val : Int) + 1) → a = b := by decide
theorem bin_fin : ∀ a b : Fin 11, binW ((a.val : Int) + 1) = binW ((b.val : Int) + 1) → a = b := by decide
theorem unW_inj {a b : Int} (a0 : 1 ≤ a) (a1 : a ≤ 4) (b0 : 1 ≤ b) (b1 : b ≤ 4) (h : unW a = unW b) : a = b := by
  have := un_fin ⟨(a - 1).toNat, by omega⟩ ⟨(b - 1).toNat, by omega⟩ (by
    simp only []
    rw [show (((a - 1).toNat : Nat) : Int) + 1 = a by omega, show (((b - 1).toNat : Nat) : Int) + 1 = b by omega]
    exact h)
  simp only [Fin.mk.injEq] at this
  omega
theorem binW_inj {a b : Int} (a0 : 1 ≤ a) (a1 : a ≤ 11) (b0 : 1 ≤ b) (b1 : b ≤ 11) (h : binW a = binW b) : a = b := by
  have := bin_fin ⟨(a - 1).toNat, by omega⟩ ⟨(b - 1).toNat, by omega⟩ (by
    simp only []
    rw [show (((a - 1).toNat : Nat) : Int) + 1 = a by omega, show (((b - 1).toNat : Nat) : Int) + 1 = b by omega]
    exact h)
  simp only [Fin.mk.injEq] at this
  omega
theorem text_head {i : In} (h : rightS i = true) : (∃ r, textS i = nmS i.op ++ 32 :: r ∧ r = operS i ∧ ¬ (i.op ≠ 1 ∧ wd i.op = 0)) ∨ (textS i = nmS i.op ∧ (i.op ≠ 1 ∧ wd i.op = 0)) := by
  unfold textS
  rw [if_pos h]
  by_cases c : i.op ≠ 1 ∧ wd i.op = 0
  · rw [if_pos c]; exact Or.inr ⟨rfl, c⟩
  · rw [if_neg c]; exact Or.inl ⟨operS i, by simp, rfl, c⟩
theorem text_inj {x y : In} (hx : rightS x = true) (hy : rightS y = true) (bx : U64 x.b) (by' : U64 y.b) (h : textS x = textS y) : x = y := by
  have kx := right_parts hx
  have ky := right_parts hy
  have in32 : ∀ (i : In) (r : Bs), (32 : UInt8) ∈ nmS i.op ++ 32 :: r := fun i r => by simp
  have eop : x.op = y.op ∧ operS x = operS y ∨ (x.op = y.op ∧ x.op ≠ 1 ∧ wd x.op = 0) := by
    rcases text_head hx with ⟨r, e1, e2, e3⟩ | ⟨e1, e3⟩ <;> rcases text_head hy with ⟨q, f1, f2, f3⟩ | ⟨f1, f3⟩
    · rw [e1, f1] at h
      obtain ⟨g1, g2⟩ := split_32 (nm_no32 _) (nm_no32 _) h
      exact Or.inl ⟨nm_inj kx.1 ky.1 g1, by rw [← e2, ← f2, g2]⟩
    · rw [e1, f1] at h
      exact absurd rfl (nm_no32 y.op 32 (by rw [← h]; exact in32 x r))
    · rw [e1, f1] at h
      exact absurd rfl (nm_no32 x.op 32 (by rw [h]; exact in32 y q))
    · rw [e1, f1] at h
      exact Or.inr ⟨nm_inj kx.1 ky.1 h, e3⟩
  have eo : x.op = y.op := by rcases eop with e | e <;> exact e.1
  obtain ⟨op, n, t, b⟩ := x
  obtain ⟨op', n', t', b'⟩ := y
  simp only at *
  subst eo
  by_cases h1 : op = 1
  · subst h1
    rcases eop with ⟨_, e⟩ | e
    · simp only [operS, if_pos] at e
      have rx := kx.2.1
      have ry := ky.2.1
      rw [if_pos rfl] at rx ry
      obtain ⟨rfl, rfl⟩ := show_inj bx by' rx ry e
      have l1 : lo 1 = 0 := by decide
      have l2 : hi 1 = 0 := by decide
      rw [l1, l2] at kx ky
      have : n = n' := by omega
      rw [this]
    · exact absurd rfl e.2.1
  · have rx := kx.2.1
    have ry := ky.2.1
    rw [if_neg h1] at rx ry
    simp only [Bool.and_eq_true, beq_iff_eq] at rx ry
    have en : n = n' := by
      rcases eop with ⟨_, e⟩ | e
      · simp only [operS, if_neg h1] at e
        by_cases h6 : op = 6
        · subst h6
          simp only [if_pos] at e
          have l1 : lo 6 = 1 := by decide
          have l2 : hi 6 = 4 := by decide
          rw [l1, l2] at kx ky
          exact unW_inj (by omega) (by omega) (by omega) (by omega) e
        by_cases h7 : op = 7
        · subst h7
          have e : binW n = binW n' := by simpa using e
          have l1 : lo 7 = 1 := by decide
          have l2 : hi 7 = 11 := by decide
          rw [l1, l2] at kx ky
          exact binW_inj (by omega) (by omega) (by omega) (by omega) e
        rw [if_neg h6, if_neg h6, if_neg h7, if_neg h7] at e
        exact itoa_inj e
      · have l1 : lo op = 0 := by
          unfold lo
          rw [if_neg]
          rintro (e1 | e1) <;> subst e1 <;> exact absurd e.2.2 (by decide)
        have l2 : hi op = 0 := by
          unfold hi
          rw [if_neg (fun e1 => by subst e1; exact absurd e.2.2 (by decide)), if_neg (fun e1 => by subst e1; exact absurd e.2.2 (by decide)), e.2.2]
          decide
        rw [l1, l2] at kx ky
        omega
    rw [en, rx.1, rx.2, ry.1, ry.2]
theorem text_pos {i : In} (h : rightS i = true) : textS i ≠ [] := by
  rcases text_head h with ⟨r, e1, _⟩ | ⟨e1, _⟩
  · rw [e1]
    intro e
    exact nm_pos i.op (List.append_eq_nil_iff.1 e).1
  · rw [e1]; exact nm_pos _
theorem encI_inj {x y : In} (hx : rightS x = true) (hy : rightS y = true) (bx : U64 x.b) (by' : U64 y.b) (h : encI x = encI y) : x = y := by
  have a := first_enc hx bx []
  have b := first_enc hy by' []
  rw [h, b] at a
  exact (Option.some.inj a).symm
theorem decGo_enc : ∀ (l : List In) (j : Nat) (acc : List In), (∀ i ∈ l, rightS i = true ∧ U64 i.b) → (encS l).length < j → acc.length + l.length ≤ 4096 → decGo j acc (encS l) = (0, acc ++ l)
  | [], j + 1, acc, _, _, _ => by simp [encS, decGo]
  | [], 0, acc, _, h, _ => absurd h (by omega)
  | i :: l, 0, acc, _, h, _ => absurd h (by omega)
  | i :: l, j + 1, acc, hl, hj, hn => by
    have hi := hl i (by simp)
    have hk := (right_parts hi.1).1
    obtain ⟨q, e1, e2⟩ := enc_head hk
    have hlen := encI_len hk
    have hf := first_enc hi.1 hi.2 (encS l)
    have ee : encS (i :: l) = encI i ++ encS l := by simp [encS]
    have hs := size_pos hk
    rw [ee] at hj ⊢
    simp only [List.length_append] at hj
    have hd : (encI i ++ encS l).drop (sizeS i.op).toNat = encS l := by
      rw [← hlen, Int.toNat_natCast]
      simp
    have hlt : ¬ acc.length = 4096 := by simp only [List.length_cons] at hn; omega
    have ih := decGo_enc l j (acc ++ [i]) (fun x hx => hl x (by simp [hx])) (by omega) (by simp only [List.length_cons, List.length_append, List.length_nil] at hn ⊢; omega)
    rw [e1] at hf hd ⊢
    simp only [List.cons_append] at hf hd ⊢
    simp only [decGo, hf, if_neg hlt, e2, hd]
    rw [ih]
    simp
theorem decGo_ok : ∀ (j : Nat) (acc : List In) (b : Bs) (r : List In), b.length < j → decGo j acc b = (0, r) → acc.length ≤ 4096 → ∃ l, r = acc ++ l ∧ b = encS l ∧ (∀ i ∈ l, rightS i = true ∧ U64 i.b) ∧ r.length ≤ 4096
  | 0, acc, b, r, h, _, _ => absurd h (by omega)
  | j + 1, acc, [], r, h, e, ha => by
    simp only [decGo, Prod.mk.injEq, true_and] at e
    subst e
    exact ⟨[], by simp, rfl, by simp, ha⟩
  | j + 1, acc, c :: b, r, h, e, ha => by
    simp only [decGo] at e
    cases hf : firstS (c :: b) with
    | none => rw [hf] at e; simp at e
    | some i =>
      rw [hf] at e
      simp only at e
      obtain ⟨d1, d2, d3, d4⟩ := first_dec hf
      have hop : (c.toNat : Int) = i.op := by simpa using d4
      by_cases h4 : acc.length = 4096
      · rw [if_pos h4] at e; simp at e
      · rw [if_neg h4] at e
        have hs := size_pos (right_parts d1).1
        obtain ⟨l, e1, e2, e3, e4⟩ := decGo_ok j (acc ++ [i]) _ r (by
          rw [List.length_drop, hop]
          simp only [List.length_cons] at h ⊢
          omega) e (by simp; omega)
        refine ⟨i :: l, by rw [e1]; simp, ?_, ?_, e4⟩
        · rw [d2, ← hop, e2]
          simp [encS]
        · intro x hx
          rcases List.mem_cons.1 hx with rfl | hx
          · exact ⟨d1, d3⟩
          · exact e3 x hx
theorem decGo_err : ∀ (j : Nat) (acc : List In) (b : Bs), b.length < j → (decGo j acc b).1 ≠ 0 → (decGo j acc b).2 = []
  | 0, acc, b, h, _ => rfl
  | j + 1, acc, [], h, e => absurd rfl e
  | j + 1, acc, c :: b, h, e => by
    simp only [decGo] at e ⊢
    cases hf : firstS (c :: b) with
    | none => rfl
    | some i =>
      rw [hf] at e
      simp only at e ⊢
      obtain ⟨d1, d2, d3, d4⟩ := first_dec hf
      have hop : (c.toNat : Int) = i.op := by simpa using d4
      by_cases h4 : acc.length = 4096
      · rw [if_pos h4]
      · rw [if_neg h4] at e ⊢
        have hs := size_pos (right_parts d1).1
        exact decGo_err j _ _ (by
          rw [List.length_drop, hop]
          simp only [List.length_cons] at h ⊢
          omega) e
end Go.Proofs.YtoiglopilpoafaaGreatDoor.Cd

namespace Go.Proofs.YtoiglopilpoafaaGreatDoor.Im
open Go.RowKit Ty Cd
set_option linter.unusedSimpArgs false
set_option linter.unusedVariables false

/-- An image: variables (type, bits), functions, where it begins. -/
structure Ig where
  vars : List (Int × Int)
  fns : List Fu
  mn : Int
/-- The signatures of all functions, the types of all variables. -/
def frI (i : Ig) : Fm := ⟨i.fns.map (·.sg), i.vars.map (·.1)⟩
def beginsI (i : Ig) : Bool := decide (0 ≤ i.mn) && match i.fns[i.mn.toNat]? with
  | none => false
  | some f => decide (f.sg.ps = []) && f.sg.res == 1
def firstE (p : Fm) : List Fu → Int
  | [] => 0
  | f :: r => if (verS f p).2 ≠ 0 then (verS f p).2 else firstE p r
/-- The first thing that is wrong with it. -/
def rightG (i : Ig) : Int := if 2048 < i.vars.length ∨ 2048 < i.fns.length then 3 else if i.vars.all (fun v => rightV v.1 v.2) = false ∨ beginsI i = false then 53 else firstE (frI i) i.fns
theorem firstE_ok {p : Fm} : ∀ {l : List Fu}, firstE p l = 0 → ∀ f ∈ l, (verS f p).2 = 0
  | [], _, f, hf => by cases hf
  | g :: r, h, f, hf => by
    unfold firstE at h
    by_cases e : (verS g p).2 ≠ 0
    · rw [if_pos e] at h; exact absurd h e
    · rw [if_neg e] at h
      rcases List.mem_cons.1 hf with rfl | hf
      · simpa using e
      · exact firstE_ok h f hf
theorem right_G {i : Ig} (h : rightG i = 0) : i.vars.length ≤ 2048 ∧ i.fns.length ≤ 2048 ∧ (∀ v ∈ i.vars, rightV v.1 v.2 = true) ∧ beginsI i = true ∧ ∀ f ∈ i.fns, (verS f (frI i)).2 = 0 := by
  unfold rightG at h
  by_cases h1 : 2048 < i.vars.length ∨ 2048 < i.fns.length
  · rw [if_pos h1] at h; cases h
  rw [if_neg h1] at h
  by_cases h2 : i.vars.all (fun v => rightV v.1 v.2) = false ∨ beginsI i = false
  · rw [if_pos h2] at h; cases h
  rw [if_neg h2] at h
  simp only [not_or, Bool.not_eq_false] at h1 h2
  exact ⟨by omega, by omega, List.all_eq_true.1 h2.1, h2.2, firstE_ok h⟩
theorem ver_ok {f : Fu} {p : Fm} (h : (verS f p).2 = 0) : outS f p = 0 ∧ ∀ i ∈ f.cd, rightS i = true := by
  obtain ⟨_, _, _, h1, h2, _⟩ := ver_fin (f := f) (p := p) h
  exact ⟨h1, bad_no h2⟩
def u8 (x : Int) : UInt8 := UInt8.ofNat x.toNat
theorem u8_inj {x y : Int} (hx : 0 ≤ x ∧ x < 256) (hy : 0 ≤ y ∧ y < 256) (h : u8 x = u8 y) : x = y := by
  have := congrArg UInt8.toNat h
  unfold u8 at this
  rw [UInt8.toNat_ofNat', UInt8.toNat_ofNat'] at this
  omega
theorem be_mod : ∀ (k n m : Nat), be k n = be k m → n % 256 ^ k = m % 256 ^ k
  | 0, n, m, _ => by simp [Nat.mod_one]
  | k + 1, n, m, h => by
    simp only [be, List.cons.injEq] at h
    have h1 := congrArg UInt8.toNat h.1
    rw [UInt8.toNat_ofNat', UInt8.toNat_ofNat'] at h1
    have h2 := be_mod k n m h.2
    rw [Nat.mod_pow_succ, Nat.mod_pow_succ, h2, show n / 256 ^ k % 256 = m / 256 ^ k % 256 by simpa [Nat.mod_mod] using h1]
theorem be_inj {k n m : Nat} (hn : n < 256 ^ k) (hm : m < 256 ^ k) (h : be k n = be k m) : n = m := by
  have := be_mod k n m h
  rwa [Nat.mod_eq_of_lt hn, Nat.mod_eq_of_lt hm] at this
theorem pf_be (k : Nat) : PF (fun n : Nat => n < 256 ^ k) (be k) := PF.fix k (fun a _ => be_len k a) (fun a b ha hb e => be_inj ha hb e)
theorem pf_u8 : PF (fun x : Int => 0 ≤ x ∧ x < 256) (fun x => [u8 x]) := PF.fix 1 (fun _ _ => rfl) (fun a b ha hb e => u8_inj ha hb (by simpa using e))
theorem pf_n8 : PF (fun n : Nat => n < 256) (fun n => [UInt8.ofNat n]) := PF.fix 1 (fun _ _ => rfl) (fun a b ha hb e => by
  have e : UInt8.ofNat a = UInt8.ofNat b := by simpa using e
  have := congrArg UInt8.toNat e
  rw [UInt8.toNat_ofNat', UInt8.toNat_ofNat'] at this
  omega)
/-- A list of types. -/
def wrT (l : List Int) : Bs := [UInt8.ofNat l.length] ++ l.flatMap (fun x => [u8 x])
theorem pf_T : PF (fun l : List Int => l.length < 256 ∧ ∀ x ∈ l, 0 ≤ x ∧ x < 256) wrT := PF.counted pf_u8 pf_n8
def wrV (v : Int × Int) : Bs := [u8 v.1] ++ be 8 v.2.toNat
theorem pf_V : PF (fun v : Int × Int => (0 ≤ v.1 ∧ v.1 < 256) ∧ 0 ≤ v.2 ∧ v.2 < 18446744073709551616) wrV :=
  PF.map (PF.pair pf_u8 (pf_be 8)) (fun v : Int × Int => (v.1, v.2.toNat)) (fun v h => ⟨h.1, by show v.2.toNat < 256 ^ 8; omega⟩) (fun a b ha hb e => by
    simp only [Prod.mk.injEq] at e
    exact Prod.ext e.1 (by omega))
theorem wd2 (op : Int) : wd op ≤ 2 := by
  unfold wd
  split
  · decide
  · split <;> decide
theorem encI_le (i : In) : (Cd.encI i).length ≤ 10 := by
  unfold Cd.encI
  split
  · simp [be_len]
  · have := wd2 i.op
    simp [be_len]
    omega
theorem encS_le : ∀ l : List In, (encS l).length ≤ l.length * 10
  | [] => by simp [encS]
  | i :: l => by
    have h1 := encI_le i
    have h2 := encS_le l
    unfold encS at h2 ⊢
    rw [List.flatMap_cons, List.length_append, List.length_cons]
    omega
def OkC (l : List In) : Prop := (∀ i ∈ l, rightS i = true ∧ U64 i.b) ∧ l.length ≤ 4096
def wrC (l : List In) : Bs := be 4 (encS l).length ++ encS l
theorem encS_inj {l m : List In} (hl : OkC l) (hm : OkC m) (e : encS l = encS m) : l = m := by
  have h1 := decGo_enc l ((encS l).length + 1) [] hl.1 (by omega) (by simpa using hl.2)
  have h2 := decGo_enc m ((encS m).length + 1) [] hm.1 (by omega) (by simpa using hm.2)
  rw [← e, h1] at h2
  simpa using h2
theorem pf_C : PF OkC wrC := PF.map (PF.raw (pf_be 4)) encS (fun l h => by
  have := encS_le l
  have := h.2
  show (encS l).length < 256 ^ 4
  omega) (fun a b ha hb e => encS_inj ha hb e)
/-- A function. -/
def wrF (f : Fu) : Bs := wrT f.sg.ps ++ ([u8 f.sg.res] ++ (wrT f.loc ++ wrC f.cd))
structure OkFn (f : Fu) : Prop where
  ps : f.sg.ps.length < 256 ∧ ∀ x ∈ f.sg.ps, 0 ≤ x ∧ x < 256
  res : 0 ≤ f.sg.res ∧ f.sg.res < 256
  loc : f.loc.length < 256 ∧ ∀ x ∈ f.loc, 0 ≤ x ∧ x < 256
  cd : OkC f.cd
theorem pf_F : PF OkFn wrF :=
  PF.map (PF.pair pf_T (PF.pair pf_u8 (PF.pair pf_T pf_C))) (fun f : Fu => (f.sg.ps, f.sg.res, f.loc, f.cd)) (fun f h => ⟨h.ps, h.res, h.loc, h.cd⟩) (fun a b _ _ e => by
    obtain ⟨⟨p1, r1⟩, l1, c1⟩ := a
    obtain ⟨⟨p2, r2⟩, l2, c2⟩ := b
    simp only [Prod.mk.injEq] at e
    obtain ⟨rfl, rfl, rfl, rfl⟩ := e
    rfl)
/-- An image, but for the seal. -/
def wrB (i : Ig) : Bs := (be 4 i.vars.length ++ i.vars.flatMap wrV) ++ ((be 4 i.fns.length ++ i.fns.flatMap wrF) ++ be 4 i.mn.toNat)
def wrI (i : Ig) : Bs := [102, 105, 109, 103] ++ wrB i
structure OkIg (i : Ig) : Prop where
  vars : i.vars.length < 256 ^ 4 ∧ ∀ v ∈ i.vars, (0 ≤ v.1 ∧ v.1 < 256) ∧ 0 ≤ v.2 ∧ v.2 < 18446744073709551616
  fns : i.fns.length < 256 ^ 4 ∧ ∀ f ∈ i.fns, OkFn f
  mn : 0 ≤ i.mn ∧ i.mn.toNat < 256 ^ 4
theorem pf_B : PF OkIg wrB :=
  PF.map (PF.pair (PF.counted pf_V (pf_be 4)) (PF.pair (PF.counted pf_F (pf_be 4)) (pf_be 4))) (fun i : Ig => (i.vars, i.fns, i.mn.toNat)) (fun i h => ⟨h.vars, h.fns, h.mn.2⟩) (fun a b ha hb e => by
    have h1 := ha.mn.1
    have h2 := hb.mn.1
    obtain ⟨v1, f1, m1⟩ := a
    obtain ⟨v2, f2, m2⟩ := b
    simp only [Prod.mk.injEq] at e h1 h2
    obtain ⟨rfl, rfl, e⟩ := e
    obtain rfl : m1 = m2 := by omega
    rfl)
theorem pf_I : PF OkIg wrI := by
  intro a b x y ha hb e
  unfold wrI at e
  rw [List.append_assoc, List.append_assoc] at e
  exact pf_B a b x y ha hb (List.append_cancel_left e)
/-- What stands in memory of an image: numbers that are such as may be. -/
structure RtI (i : Ig) : Prop where
  right : rightG i = 0
  bits : ∀ v ∈ i.vars, 0 ≤ v.2 ∧ v.2 < 18446744073709551616
  code : ∀ f ∈ i.fns, ∀ x ∈ f.cd, U64 x.b
theorem val_byte {t : Int} (h : t = 0 ∨ valued t = true) : 0 ≤ t ∧ t < 256 := by
  rcases h with rfl | h
  · omega
  · rcases (valued_iff t).1 h with rfl | rfl | rfl <;> omega
theorem RtI.ok {i : Ig} (h : RtI i) : OkIg i := by
  obtain ⟨h1, h2, h3, h4, h5⟩ := right_G h.right
  refine ⟨⟨by omega, fun v hv => ⟨val_byte (Or.inr (right_val (h3 v hv))), h.bits v hv⟩⟩, ⟨by omega, fun f hf => ?_⟩, ?_⟩
  · obtain ⟨ho, hr⟩ := ver_ok (h5 f hf)
    obtain ⟨k1, k2, k3, k4, hF⟩ := out_ok ho
    have hout := ho
    have hps : ∀ x ∈ f.sg.ps, valued x = true := by
      unfold outS at hout
      split at hout
      · cases hout
      split at hout
      · cases hout
      rename_i q
      simp only [not_or, Bool.not_eq_false] at q
      have := q.2.2.2.2.1
      unfold sgS at this
      simp only [Bool.and_eq_true] at this
      exact List.all_eq_true.1 this.1
    have hlo : ∀ x ∈ f.loc, valued x = true := by
      unfold outS at hout
      split at hout
      · cases hout
      split at hout
      · cases hout
      rename_i q
      simp only [not_or, Bool.not_eq_false] at q
      exact List.all_eq_true.1 q.2.2.2.1
    have hre : f.sg.res = 0 ∨ valued f.sg.res = true := by
      unfold outS at hout
      split at hout
      · cases hout
      split at hout
      · cases hout
      rename_i q
      simp only [not_or, Bool.not_eq_false] at q
      have := q.2.2.2.2.1
      unfold sgS at this
      simp only [Bool.and_eq_true, Bool.or_eq_true, beq_iff_eq] at this
      exact this.2
    exact ⟨⟨by omega, fun x hx => val_byte (Or.inr (hps x hx))⟩, val_byte hre, ⟨by omega, fun x hx => val_byte (Or.inr (hlo x hx))⟩, fun x hx => ⟨hr x hx, h.code f hf x hx⟩, k3⟩
  · unfold beginsI at h4
    simp only [Bool.and_eq_true, decide_eq_true_eq] at h4
    refine ⟨h4.1, ?_⟩
    cases hx : i.fns[i.mn.toNat]? with
    | none => rw [hx] at h4; exact absurd h4.2 (by simp)
    | some f => have := (List.getElem?_eq_some_iff.1 hx).1; omega
end Go.Proofs.YtoiglopilpoafaaGreatDoor.Im

namespace Go.Proofs.YtoiglopilpoafaaGreatDoor.Im
open Go.RowKit Ty Cd
set_option linter.unusedSimpArgs false
set_option linter.unusedVariables false

def sumS (l : Bs) : Nat := fnvS 2166136261 (l.map UInt8.toNat)
def sealS (l : Bs) : Bs := be 4 (sumS l)
def packS (i : Ig) : Bs := wrI i ++ sealS (wrI i)
/-- The bytes of an image that is right. -/
def IsI (b : Bs) : Prop := ∃ i, RtI i ∧ b = packS i ∧ b.length ≤ 65536
theorem sumS_lt (l : Bs) : sumS l < 256 ^ 4 := fnvS_lt 2166136261 (by decide) _
theorem seal_len (l : Bs) : (sealS l).length = 4 := be_len 4 _
theorem seal_inj {a b : Bs} (h : sealS a = sealS b) : sumS a = sumS b := be_inj (sumS_lt a) (sumS_lt b) h
theorem isI_more {b : Bs} (h : IsI b) (r : Bs) (hr : r ≠ []) : ¬ IsI (b ++ r) := by
  obtain ⟨i, hi, rfl, _⟩ := h
  rintro ⟨j, hj, e, _⟩
  exact hr (pf_I.cut hj.ok hi.ok (by rw [seal_len, seal_len]) e.symm).1
theorem isI_cut {b : Bs} (h : IsI b) {k : Nat} (hk : k < b.length) : ¬ IsI (b.take k) := by
  intro h2
  have := isI_more h2 (b.drop k) (fun e => by
    have := congrArg List.length e
    rw [List.length_drop, List.length_nil] at this
    omega)
  rw [List.take_append_drop] at this
  exact this h
theorem set_split {α : Type} {l : List α} {k : Nat} {a d : α} (h : l[k]? = some a) : l = l.take k ++ a :: l.drop (k + 1) ∧ l.set k d = l.take k ++ d :: l.drop (k + 1) := by
  obtain ⟨hk, e⟩ := List.getElem?_eq_some_iff.1 h
  refine ⟨?_, ?_⟩
  · rw [← e, ← List.drop_eq_getElem_cons hk, List.take_append_drop]
  · rw [List.set_eq_take_append_cons_drop, if_pos hk]
theorem sum_turn {l : Bs} {k : Nat} {a d : UInt8} (h : l[k]? = some a) (hne : a ≠ d) : sumS l ≠ sumS (l.set k d) := by
  obtain ⟨e1, e2⟩ := set_split (d := d) h
  have hb : ∀ (m : Bs), ∀ x ∈ m.map UInt8.toNat, x < 256 := fun m x hx => by
    obtain ⟨y, _, rfl⟩ := List.mem_map.1 hx
    exact y.toNat_lt
  rw [e2]
  conv => lhs; rw [e1]
  unfold sumS
  rw [List.map_append, List.map_append, List.map_cons, List.map_cons]
  exact fnv_turn (by decide) _ _ _ _ (hb _) (hb _) a.toNat_lt d.toNat_lt (fun e => hne (UInt8.toNat_inj.1 e))
theorem isI_turn {b : Bs} (h : IsI b) {k : Nat} {a d : UInt8} (hk : b[k]? = some a) (hne : a ≠ d) : ¬ IsI (b.set k d) := by
  obtain ⟨i, hi, rfl, _⟩ := h
  rintro ⟨j, hj, e, _⟩
  unfold packS at e hk
  have hl : (wrI i).length = (wrI j).length := by
    have := congrArg List.length e
    rw [List.length_set, List.length_append, List.length_append, seal_len, seal_len] at this
    omega
  by_cases h1 : k < (wrI i).length
  · rw [List.set_append_left _ _ h1] at e
    rw [List.getElem?_append_left h1] at hk
    obtain ⟨e1, e2⟩ := List.append_inj e (by rw [List.length_set]; exact hl)
    have := seal_inj e2
    rw [← e1] at this
    exact sum_turn hk hne this
  · rw [List.set_append_right _ _ (by omega)] at e
    rw [List.getElem?_append_right (by omega)] at hk
    obtain ⟨e1, e2⟩ := List.append_inj e hl
    rw [e1] at e2 hk
    have h3 := congrArg (fun l => l[k - (wrI j).length]?) e2
    have h3 : _ = _ := h3
    rw [List.getElem?_set_self (by have := (List.getElem?_eq_some_iff.1 hk).1; exact this), hk] at h3
    exact hne (Option.some.inj h3).symm
end Go.Proofs.YtoiglopilpoafaaGreatDoor.Im
