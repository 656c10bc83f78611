/- Plain: shapes as texts; no two shapes have one text. -/
import Derived.Test.YtnmcehpdiopaiaaGreatDoorCdS
import Derived.Test.YtnmcehpdiopaiaaGreatDoorTyP
namespace Go.Proofs.YtnmcehpdiopaiaaGreatDoor.Cd
open Go.RowKit Ty
set_option linter.unusedSimpArgs false
set_option linter.unusedVariables false

def encB (t : Int) : UInt8 := UInt8.ofNat t.toNat
def encSt (l : List Int) : Bs := l.map encB
def encLn (x : Int × List Int) : Bs := Lib.itoa x.1 ++ encSt x.2
def encOne (x : Int × List Int) : Bs := encLn x ++ [10]
def encTr (l : List (Int × List Int)) : Bs := l.flatMap encOne
def Vd (l : List Int) : Prop := ∀ t ∈ l, valued t = true
structure OkS (s : Sp) : Prop where
  st : Vd s.st
  tr : ∀ x ∈ s.tr, 0 ≤ x.1 ∧ Vd x.2

theorem encB_val {t : Int} (h : valued t = true) : ((encB t).toNat : Int) = t ∧ encB t ≤ 3 ∧ encB t ≠ 10 := by
  rcases (valued_iff t).1 h with rfl | rfl | rfl <;> decide
theorem Vd.all {l : List Int} (h : l.all valued = true) : Vd l := fun t ht => List.all_eq_true.1 h t ht
theorem encSt_inj : ∀ {a b : List Int}, Vd a → Vd b → encSt a = encSt b → a = b
  | [], [], _, _, _ => rfl
  | [], y :: b, _, _, h => by simp [encSt] at h
  | x :: a, [], _, _, h => by simp [encSt] at h
  | x :: a, y :: b, ha, hb, h => by
    simp only [encSt, List.map_cons, List.cons.injEq] at h
    have e := encSt_inj (a := a) (b := b) (fun t ht => ha t (by simp [ht])) (fun t ht => hb t (by simp [ht])) h.2
    have ex : x = y := by
      have h1 := (encB_val (ha x (by simp))).1
      have h2 := (encB_val (hb y (by simp))).1
      rw [h.1] at h1
      omega
    rw [ex, e]
theorem itoa_big {n : Int} (h : 0 ≤ n) : ∀ c ∈ Lib.itoa n, 48 ≤ c ∧ c ≠ 10 := by
  intro c hc
  have hf := (D.dec_facts n.toNat).1
  have : Lib.itoa n = Lib.decDigits n.toNat := by unfold Lib.itoa; rw [if_neg (by omega)]
  rw [this] at hc
  have := List.all_eq_true.1 hf c hc
  simp only [D.isd, Bool.and_eq_true, decide_eq_true_eq] at this
  refine ⟨UInt8.le_iff_toNat_le.2 this.1, fun e => ?_⟩
  subst e
  exact absurd this.1 (by decide)
theorem split_big : ∀ {a b x y : Bs}, (∀ c ∈ a, 48 ≤ c) → (∀ c ∈ b, 48 ≤ c) → (∀ c ∈ x, c ≤ 3) → (∀ c ∈ y, c ≤ 3) → a ++ x = b ++ y → a = b ∧ x = y
  | [], [], x, y, _, _, _, _, h => ⟨rfl, by simpa using h⟩
  | [], c :: b, x, y, _, hb, hx, _, h => by
    exfalso
    have h1 := hb c (by simp)
    have h2 := hx c (by rw [show x = c :: (b ++ y) by simpa using h]; simp)
    exact absurd (UInt8.le_trans h1 h2) (by decide)
  | c :: a, [], x, y, ha, _, _, hy, h => by
    exfalso
    have h1 := ha c (by simp)
    have h2 := hy c (by rw [show y = c :: (a ++ x) by simpa using h.symm]; simp)
    exact absurd (UInt8.le_trans h1 h2) (by decide)
  | c :: a, d :: b, x, y, ha, hb, hx, hy, h => by
    simp only [List.cons_append, List.cons.injEq] at h
    have e := split_big (a := a) (b := b) (fun t ht => ha t (by simp [ht])) (fun t ht => hb t (by simp [ht])) hx hy h.2
    exact ⟨by rw [h.1, e.1], e.2⟩
theorem encSt_small {l : List Int} (h : Vd l) : ∀ c ∈ encSt l, c ≤ 3 := by
  intro c hc
  simp only [encSt, List.mem_map] at hc
  obtain ⟨t, ht, rfl⟩ := hc
  exact (encB_val (h t ht)).2.1
theorem encSt_no10 {l : List Int} (h : Vd l) : ∀ c ∈ encSt l, c ≠ 10 := by
  intro c hc
  simp only [encSt, List.mem_map] at hc
  obtain ⟨t, ht, rfl⟩ := hc
  exact (encB_val (h t ht)).2.2
theorem encLn_no10 {x : Int × List Int} (h : 0 ≤ x.1 ∧ Vd x.2) : ∀ c ∈ encLn x, c ≠ 10 := by
  intro c hc
  simp only [encLn, List.mem_append] at hc
  rcases hc with hc | hc
  · exact (itoa_big h.1 c hc).2
  · exact encSt_no10 h.2 c hc
theorem encLn_inj {x y : Int × List Int} (hx : 0 ≤ x.1 ∧ Vd x.2) (hy : 0 ≤ y.1 ∧ Vd y.2) (h : encLn x = encLn y) : x = y := by
  obtain ⟨e1, e2⟩ := split_big (fun c hc => (itoa_big hx.1 c hc).1) (fun c hc => (itoa_big hy.1 c hc).1) (encSt_small hx.2) (encSt_small hy.2) h
  exact Prod.ext (itoa_inj e1) (encSt_inj hx.2 hy.2 e2)
theorem split_10 : ∀ {a b x y : Bs}, (∀ c ∈ a, c ≠ 10) → (∀ c ∈ b, c ≠ 10) → a ++ 10 :: x = b ++ 10 :: y → a = b ∧ x = y
  | [], [], x, y, _, _, h => ⟨rfl, by simpa using h⟩
  | [], c :: b, x, y, _, hb, h => by
    simp only [List.nil_append, List.cons_append, List.cons.injEq] at h
    exact absurd h.1.symm (hb c (by simp))
  | c :: a, [], x, y, ha, _, h => by
    simp only [List.nil_append, List.cons_append, List.cons.injEq] at h
    exact absurd h.1 (ha c (by simp))
  | c :: a, d :: b, x, y, ha, hb, h => by
    simp only [List.cons_append, List.cons.injEq] at h
    have e := split_10 (a := a) (b := b) (fun t ht => ha t (by simp [ht])) (fun t ht => hb t (by simp [ht])) h.2
    exact ⟨by rw [h.1, e.1], e.2⟩
theorem encTr_inj : ∀ {a b : List (Int × List Int)}, (∀ x ∈ a, 0 ≤ x.1 ∧ Vd x.2) → (∀ x ∈ b, 0 ≤ x.1 ∧ Vd x.2) → encTr a = encTr b → a = b
  | [], [], _, _, _ => rfl
  | [], y :: b, _, _, h => by simp [encTr, encOne] at h
  | x :: a, [], _, _, h => by simp [encTr, encOne] at h
  | x :: a, y :: b, ha, hb, h => by
    simp only [encTr, List.flatMap_cons, encOne, List.append_assoc, List.singleton_append] at h
    obtain ⟨e1, e2⟩ := split_10 (encLn_no10 (ha x (by simp))) (encLn_no10 (hb y (by simp))) h
    rw [encLn_inj (ha x (by simp)) (hb y (by simp)) e1]
    congr 1
    exact encTr_inj (fun z hz => ha z (by simp [hz])) (fun z hz => hb z (by simp [hz])) e2
theorem sp_inj {s s' : Sp} (h : OkS s) (h' : OkS s') (e1 : encSt s.st = encSt s'.st) (e2 : encTr s.tr = encTr s'.tr) : s = s' := by
  obtain ⟨st, tr⟩ := s
  obtain ⟨st', tr'⟩ := s'
  have a := encSt_inj h.st h'.st e1
  have b := encTr_inj h.tr h'.tr e2
  simp only at a b
  rw [a, b]
theorem encTr_last {l : List (Int × List Int)} (h : l ≠ []) : encTr l = encTr l.dropLast ++ encLn (l.getLast h) ++ [10] := by
  have e := List.dropLast_concat_getLast h
  calc encTr l = encTr (l.dropLast ++ [l.getLast h]) := by rw [e]
    _ = _ := by simp [encTr, encOne, List.flatMap_append]
theorem encTr_end : ∀ (l : List (Int × List Int)), encTr l = [] ∨ ∃ r, encTr l = r ++ [10]
  | [] => Or.inl rfl
  | x :: l => by
    right
    have := encTr_last (l := x :: l) (by simp)
    exact ⟨_, this⟩
theorem encTr_snoc (l : List (Int × List Int)) (x : Int × List Int) : encTr (l ++ [x]) = encTr l ++ (Lib.itoa x.1 ++ encSt x.2 ++ [10]) := by
  simp [encTr, encOne, encLn, List.flatMap_append]
theorem un_val {op t : Int} (h : (unS op t).2 = 0) : valued (unS op t).1 = true := by
  unfold unS at h ⊢
  repeat' split at h
  all_goals first
    | (exfalso; revert h; decide)
    | (simp_all; decide)
theorem takenS_val {x1 x2 x3 t : Int} (h1 : x1 = 0 ∨ valued x1 = true) (h2 : x2 = 0 ∨ valued x2 = true) (h3 : x3 = 0 ∨ valued x3 = true) (h : (takenS x1 x2 x3 t).2 = 0) : valued (takenS x1 x2 x3 t).1 = true := by
  unfold takenS at h ⊢
  repeat' split at h
  all_goals first
    | (exfalso; revert h; decide)
    | simp_all
theorem rowB_val (op : Int) : ((rowB op).1 = 0 ∨ valued (rowB op).1 = true) ∧ ((rowB op).2.1 = 0 ∨ valued (rowB op).2.1 = true) ∧ ((rowB op).2.2 = 0 ∨ valued (rowB op).2.2 = true) := by
  unfold rowB
  repeat' split
  all_goals decide
theorem bin_val {op a b : Int} (h : (binS op a b).2 = 0) : valued (binS op a b).1 = true := by
  unfold binS at h ⊢
  split at h
  · exfalso; revert h; decide
  split at h
  · exfalso; revert h; decide
  rename_i h1 h2
  rw [if_neg h1, if_neg h2]
  exact takenS_val (rowB_val op).1 (rowB_val op).2.1 (rowB_val op).2.2 h
theorem Vd.app {a b : List Int} (ha : Vd a) (hb : Vd b) : Vd (a ++ b) := fun t ht => by
  rcases List.mem_append.1 ht with h | h
  · exact ha t h
  · exact hb t h
theorem Vd.one {t : Int} (h : valued t = true) : Vd [t] := fun x hx => by
  simp at hx
  rw [hx]; exact h
theorem Vd.sub {a b : List Int} (ha : Vd a) (h : ∀ t ∈ b, t ∈ a) : Vd b := fun t ht => ha t (h t ht)
theorem tk_sub {st l r : List Int} (h : tk st l = some r) : ∀ t ∈ r, t ∈ st := by
  unfold tk at h
  split at h
  · cases h
    intro t ht
    exact List.mem_of_mem_take ht
  · cases h
theorem tp_sub {st r : List Int} {t : Int} (h : tp st = some (r, t)) : (∀ x ∈ r, x ∈ st) ∧ t ∈ st ∧ st = r ++ [t] := by
  unfold tp at h
  split at h
  · cases h
  · rename_i u hu
    simp only [Option.some.injEq, Prod.mk.injEq] at h
    obtain ⟨rfl, rfl⟩ := h
    have hne : st ≠ [] := by rintro rfl; simp at hu
    have e := List.dropLast_concat_getLast hne
    have hl : st.getLast hne = u := by
      have := List.getLast?_eq_some_getLast hne
      rw [this] at hu
      exact Option.some.inj hu
    rw [hl] at e
    exact ⟨fun x hx => List.dropLast_subset _ hx, by rw [← hl]; exact List.getLast_mem hne, e.symm⟩
/-- What is asked of a function and a program ahead of the shapes. -/
structure OkF (f : Fu) (p : Fm) : Prop where
  loc : Vd f.loc
  vars : Vd p.vars
  res : f.sg.res = 0 ∨ valued f.sg.res = true
  fns : ∀ g ∈ p.fns, Vd g.ps ∧ (g.res = 0 ∨ valued g.res = true)
/-- Of an instruction that is right: what the shapes hang on. -/
structure OkI (i : In) : Prop where
  n : 0 ≤ i.n
  push : i.op = 1 → valued i.t = true
theorem on_ok {s : Sp} {st : List Int} {a b : Option Sp} (hs : OkS s) (hst : Vd st) (h : on s st = some (a, b)) : (∀ x, a = some x → OkS x) ∧ (∀ x, b = some x → OkS x) := by
  have h : some (some (⟨st, s.tr⟩ : Sp), (none : Option Sp)) = some (a, b) := h
  cases h
  refine ⟨fun x hx => ?_, fun x hx => (by cases hx)⟩
  cases hx
  exact ⟨hst, hs.tr⟩
theorem step_ok {f : Fu} {p : Fm} {i : In} {s : Sp} {a b : Option Sp} (hf : OkF f p) (hi : OkI i) (hs : OkS s) (h : stepS f p i s = some (a, b)) : (∀ x, a = some x → OkS x) ∧ (∀ x, b = some x → OkS x) := by
  rw [stepS.eq_1] at h
  have hloc : ∀ t, f.loc[i.n.toNat]? = some t → valued t = true := fun t ht => hf.loc t (List.mem_of_getElem? ht)
  have hvar : ∀ t, p.vars[i.n.toNat]? = some t → valued t = true := fun t ht => hf.vars t (List.mem_of_getElem? ht)
  by_cases c1 : i.op = 1
  · rw [if_pos c1] at h
    exact on_ok hs (hs.st.app (Vd.one (hi.push c1))) h
  rw [if_neg c1] at h
  by_cases c2 : i.op = 2
  · rw [if_pos c2] at h
    obtain ⟨t, h1, h2⟩ := Option.bind_eq_some_iff.1 h
    exact on_ok hs (hs.st.app (Vd.one (hloc t h1))) h2
  rw [if_neg c2] at h
  by_cases c3 : i.op = 3
  · rw [if_pos c3] at h
    obtain ⟨t, h1, h2⟩ := Option.bind_eq_some_iff.1 h
    obtain ⟨r, h3, h4⟩ := Option.bind_eq_some_iff.1 h2
    exact on_ok hs (hs.st.sub (tk_sub h3)) h4
  rw [if_neg c3] at h
  by_cases c4 : i.op = 4
  · rw [if_pos c4] at h
    obtain ⟨t, h1, h2⟩ := Option.bind_eq_some_iff.1 h
    exact on_ok hs (hs.st.app (Vd.one (hvar t h1))) h2
  rw [if_neg c4] at h
  by_cases c5 : i.op = 5
  · rw [if_pos c5] at h
    obtain ⟨t, h1, h2⟩ := Option.bind_eq_some_iff.1 h
    obtain ⟨r, h3, h4⟩ := Option.bind_eq_some_iff.1 h2
    exact on_ok hs (hs.st.sub (tk_sub h3)) h4
  rw [if_neg c5] at h
  by_cases c6 : i.op = 6
  · rw [if_pos c6] at h
    obtain ⟨⟨r, t⟩, h1, h2⟩ := Option.bind_eq_some_iff.1 h
    split at h2
    · rename_i hz
      exact on_ok hs ((hs.st.sub (tp_sub h1).1).app (Vd.one (un_val hz))) h2
    · cases h2
  rw [if_neg c6] at h
  by_cases c7 : i.op = 7
  · rw [if_pos c7] at h
    obtain ⟨⟨r, t⟩, h1, h2⟩ := Option.bind_eq_some_iff.1 h
    obtain ⟨⟨q, u⟩, h3, h4⟩ := Option.bind_eq_some_iff.1 h2
    split at h4
    · rename_i hz
      exact on_ok hs (((hs.st.sub (tp_sub h1).1).sub (tp_sub h3).1).app (Vd.one (bin_val hz))) h4
    · cases h4
  rw [if_neg c7] at h
  by_cases c8 : i.op = 8
  · rw [if_pos c8] at h
    simp only [Option.some.injEq, Prod.mk.injEq] at h
    obtain ⟨rfl, rfl⟩ := h
    exact ⟨fun x hx => (by cases hx), fun x hx => (by cases hx; exact hs)⟩
  rw [if_neg c8] at h
  by_cases c9 : i.op = 9
  · rw [if_pos c9] at h
    obtain ⟨r, h1, h2⟩ := Option.bind_eq_some_iff.1 h
    simp only [Option.some.injEq, Prod.mk.injEq] at h2
    obtain ⟨rfl, rfl⟩ := h2
    exact ⟨fun x hx => (by cases hx; exact ⟨hs.st.sub (tk_sub h1), hs.tr⟩), fun x hx => (by cases hx; exact ⟨hs.st.sub (tk_sub h1), hs.tr⟩)⟩
  rw [if_neg c9] at h
  by_cases c10 : i.op = 10
  · rw [if_pos c10] at h
    obtain ⟨g, h1, h2⟩ := Option.bind_eq_some_iff.1 h
    obtain ⟨r, h3, h4⟩ := Option.bind_eq_some_iff.1 h2
    have hg := hf.fns g (List.mem_of_getElem? h1)
    split at h4
    · exact on_ok hs (hs.st.sub (tk_sub h3)) h4
    · rename_i hz
      exact on_ok hs ((hs.st.sub (tk_sub h3)).app (Vd.one (hg.2.resolve_left hz))) h4
  rw [if_neg c10] at h
  by_cases c11 : i.op = 11
  · rw [if_pos c11] at h
    split at h
    · cases h; exact ⟨fun x hx => (by cases hx), fun x hx => (by cases hx)⟩
    · obtain ⟨r, h1, h2⟩ := Option.bind_eq_some_iff.1 h
      cases h2; exact ⟨fun x hx => (by cases hx), fun x hx => (by cases hx)⟩
  rw [if_neg c11] at h
  by_cases c12 : i.op = 12
  · rw [if_pos c12] at h
    obtain ⟨⟨r, t⟩, h1, h2⟩ := Option.bind_eq_some_iff.1 h
    exact on_ok hs (hs.st.sub (tp_sub h1).1) h2
  rw [if_neg c12] at h
  by_cases c13 : i.op = 13
  · rw [if_pos c13] at h
    obtain ⟨r, h1, h2⟩ := Option.bind_eq_some_iff.1 h
    cases h2; exact ⟨fun x hx => (by cases hx), fun x hx => (by cases hx)⟩
  rw [if_neg c13] at h
  by_cases c14 : i.op = 14
  · rw [if_pos c14] at h
    exact on_ok hs (hs.st.app (Vd.one (by decide))) h
  rw [if_neg c14] at h
  by_cases c15 : i.op = 15
  · rw [if_pos c15] at h
    simp only [Option.some.injEq, Prod.mk.injEq] at h
    obtain ⟨rfl, rfl⟩ := h
    refine ⟨fun x hx => ?_, fun x hx => ?_⟩
    · cases hx
      refine ⟨hs.st, fun y hy => ?_⟩
      rcases List.mem_append.1 hy with hy | hy
      · exact hs.tr y hy
      · simp at hy
        subst hy
        exact ⟨hi.n, hs.st⟩
    · cases hx
      exact ⟨hs.st.app (Vd.one (by decide)), hs.tr⟩
  rw [if_neg c15] at h
  by_cases c16 : i.op = 16
  · rw [if_pos c16] at h
    split at h
    · cases h
    · simp only [Option.some.injEq, Prod.mk.injEq] at h
      obtain ⟨rfl, rfl⟩ := h
      exact ⟨fun x hx => (by cases hx; exact ⟨hs.st, fun y hy => hs.tr y (List.dropLast_subset _ hy)⟩), fun x hx => (by cases hx)⟩
  · rw [if_neg c16] at h
    obtain ⟨⟨r, t⟩, h1, h2⟩ := Option.bind_eq_some_iff.1 h
    exact on_ok hs (hs.st.sub (tp_sub h1).1) h2
end Go.Proofs.YtnmcehpdiopaiaaGreatDoor.Cd
