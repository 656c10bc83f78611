/- Texts of ours, in one. -/
import Derived.Test.YtoiglopilpoafaaGreatDoorPk6
import Derived.Test.YtoiglopilpoafaaGreatDoorPk9
import Derived.Test.YtoiglopilpoafaaGreatDoorPk8
namespace Go.Proofs.YtoiglopilpoafaaGreatDoor.Cd
open Go.RowKit Ty
set_option linter.unusedSimpArgs false
set_option linter.unusedVariables false

def encB (t : Int) : UInt8 := UInt8.ofNat t.toNat
def encSt (l : List Int) : Bs := l.map encB
def encLn (x : Int × List Int) : Bs := Lib.itoa x.1 ++ encSt x.2
def encOne (x : Int × List Int) : Bs := encLn x ++ [10]
def encTr (l : List (Int × List Int)) : Bs := l.flatMap encOne
def Vd (l : List Int) : Prop := ∀ t ∈ l, valued t = true
structure OkS (s : Sp) : Prop where
  st : Vd s.st
  tr : ∀ x ∈ s.tr, 0 ≤ x.1 ∧ Vd x.2

theorem encB_val {t : Int} (h : valued t = true) : ((encB t).toNat : Int) = t ∧ encB t ≤ 3 ∧ encB t ≠ 10 := by
  rcases (valued_iff t).1 h with rfl | rfl | rfl <;> decide
theorem Vd.all {l : List Int} (h : l.all valued = true) : Vd l := fun t ht => List.all_eq_true.1 h t ht
theorem encSt_inj : ∀ {a b : List Int}, Vd a → Vd b → encSt a = encSt b → a = b
  | [], [], _, _, _ => rfl
  | [], y :: b, _, _, h => by simp [encSt] at h
  | x :: a, [], _, _, h => by simp [encSt] at h
  | x :: a, y :: b, ha, hb, h => by
    simp only [encSt, List.map_cons, List.cons.injEq] at h
    have e := encSt_inj (a := a) (b := b) (fun t ht => ha t (by simp [ht])) (fun t ht => hb t (by simp [ht])) h.2
    have ex : x = y := by
      have h1 := (encB_val (ha x (by simp))).1
      have h2 := (encB_val (hb y (by simp))).1
      rw [h.1] at h1
      omega
    rw [ex, e]
theorem itoa_big {n : Int} (h : 0 ≤ n) : ∀ c ∈ Lib.itoa n, 48 ≤ c ∧ c ≠ 10 := by
  intro c hc
  have hf := (D.dec_facts n.toNat).1
  have : Lib.itoa n = Lib.decDigits n.toNat := by unfold Lib.itoa; rw [if_neg (by omega)]
  rw [this] at hc
  have := List.all_eq_true.1 hf c hc
  simp only [D.isd, Bool.and_eq_true, decide_eq_true_eq] at this
  refine ⟨UInt8.le_iff_toNat_le.2 this.1, fun e => ?_⟩
  subst e
  exact absurd this.1 (by decide)
theorem split_big : ∀ {a b x y : Bs}, (∀ c ∈ a, 48 ≤ c) → (∀ c ∈ b, 48 ≤ c) → (∀ c ∈ x, c ≤ 3) → (∀ c ∈ y, c ≤ 3) → a ++ x = b ++ y → a = b ∧ x = y
  | [], [], x, y, _, _, _, _, h => ⟨rfl, by simpa using h⟩
  | [], c :: b, x, y, _, hb, hx, _, h => by
    exfalso
    have h1 := hb c (by simp)
    have h2 := hx c (by rw [show x = c :: (b ++ y) by simpa using h]; simp)
    exact absurd (UInt8.le_trans h1 h2) (by decide)
  | c :: a, [], x, y, ha, _, _, hy, h => by
    exfalso
    have h1 := ha c (by simp)
    have h2 := hy c (by rw [show y = c :: (a ++ x) by simpa using h.symm]; simp)
    exact absurd (UInt8.le_trans h1 h2) (by decide)
  | c :: a, d :: b, x, y, ha, hb, hx, hy, h => by
    simp only [List.cons_append, List.cons.injEq] at h
    have e := split_big (a := a) (b := b) (fun t ht => ha t (by simp [ht])) (fun t ht => hb t (by simp [ht])) hx hy h.2
    exact ⟨by rw [h.1, e.1], e.2⟩
theorem encSt_small {l : List Int} (h : Vd l) : ∀ c ∈ encSt l, c ≤ 3 := by
  intro c hc
  simp only [encSt, List.mem_map] at hc
  obtain ⟨t, ht, rfl⟩ := hc
  exact (encB_val (h t ht)).2.1
theorem encSt_no10 {l : List Int} (h : Vd l) : ∀ c ∈ encSt l, c ≠ 10 := by
  intro c hc
  simp only [encSt, List.mem_map] at hc
  obtain ⟨t, ht, rfl⟩ := hc
  exact (encB_val (h t ht)).2.2
theorem encLn_no10 {x : Int × List Int} (h : 0 ≤ x.1 ∧ Vd x.2) : ∀ c ∈ encLn x, c ≠ 10 := by
  intro c hc
  simp only [encLn, List.mem_append] at hc
  rcases hc with hc | hc
  · exact (itoa_big h.1 c hc).2
  · exact encSt_no10 h.2 c hc
theorem encLn_inj {x y : Int × List Int} (hx : 0 ≤ x.1 ∧ Vd x.2) (hy : 0 ≤ y.1 ∧ Vd y.2) (h : encLn x = encLn y) : x = y := by
  obtain ⟨e1, e2⟩ := split_big (fun c hc => (itoa_big hx.1 c hc).1) (fun c hc => (itoa_big hy.1 c hc).1) (encSt_small hx.2) (encSt_small hy.2) h
  exact Prod.ext (itoa_inj e1) (encSt_inj hx.2 hy.2 e2)
theorem split_10 : ∀ {a b x y : Bs}, (∀ c ∈ a, c ≠ 10) → (∀ c ∈ b, c ≠ 10) → a ++ 10 :: x = b ++ 10 :: y → a = b ∧ x = y
  | [], [], x, y, _, _, h => ⟨rfl, by simpa using h⟩
  | [], c :: b, x, y, _, hb, h => by
    simp only [List.nil_append, List.cons_append, List.cons.injEq] at h
    exact absurd h.1.symm (hb c (by simp))
  | c :: a, [], x, y, ha, _, h => by
    simp only [List.nil_append, List.cons_append, List.cons.injEq] at h
    exact absurd h.1 (ha c (by simp))
  | c :: a, d :: b, x, y, ha, hb, h => by
    simp only [List.cons_append, List.cons.injEq] at h
    have e := split_10 (a := a) (b := b) (fun t ht => ha t (by simp [ht])) (fun t ht => hb t (by simp [ht])) h.2
    exact ⟨by rw [h.1, e.1], e.2⟩
theorem encTr_inj : ∀ {a b : List (Int × List Int)}, (∀ x ∈ a, 0 ≤ x.1 ∧ Vd x.2) → (∀ x ∈ b, 0 ≤ x.1 ∧ Vd x.2) → encTr a = encTr b → a = b
  | [], [], _, _, _ => rfl
  | [], y :: b, _, _, h => by simp [encTr, encOne] at h
  | x :: a, [], _, _, h => by simp [encTr, encOne] at h
  | x :: a, y :: b, ha, hb, h => by
    simp only [encTr, List.flatMap_cons, encOne, List.append_assoc, List.singleton_append] at h
    obtain ⟨e1, e2⟩ := split_10 (encLn_no10 (ha x (by simp))) (encLn_no10 (hb y (by simp))) h
    rw [encLn_inj (ha x (by simp)) (hb y (by simp)) e1]
    congr 1
    exact encTr_inj (fun z hz => ha z (by simp [hz])) (fun z hz => hb z (by simp [hz])) e2
theorem sp_inj {s s' : Sp} (h : OkS s) (h' : OkS s') (e1 : encSt s.st = encSt s'.st) (e2 : encTr s.tr = encTr s'.tr) : s = s' := by
  obtain ⟨st, tr⟩ := s
  obtain ⟨st', tr'⟩ := s'
  have a := encSt_inj h.st h'.st e1
  have b := encTr_inj h.tr h'.tr e2
  simp only at a b
  rw [a, b]
theorem encTr_last {l : List (Int × List Int)} (h : l ≠ []) : encTr l = encTr l.dropLast ++ encLn (l.getLast h) ++ [10] := by
  have e := List.dropLast_concat_getLast h
  calc encTr l = encTr (l.dropLast ++ [l.getLast h]) := by rw [e]
    _ = _ := by simp [encTr, encOne, List.flatMap_append]
theorem encTr_end : ∀ (l : List (Int × List Int)), encTr l = [] ∨ ∃ r, encTr l = r ++ [10]
  | [] => Or.inl rfl
  | x :: l => by
    right
    have := encTr_last (l := x :: l) (by simp)
    exact ⟨_, this⟩
theorem encTr_snoc (l : List (Int × List Int)) (x : Int × List Int) : encTr (l ++ [x]) = encTr l ++ (Lib.itoa x.1 ++ encSt x.2 ++ [10]) := by
  simp [encTr, encOne, encLn, List.flatMap_append]
theorem un_val {op t : Int} (h : (unS op t).2 = 0) : valued (unS op t).1 = true := by
  unfold unS at h ⊢
  repeat' split at h
  all_goals first
    | (exfalso; revert h; decide)
    | (simp_all; decide)
theorem takenS_val {x1 x2 x3 t : Int} (h1 : x1 = 0 ∨ valued x1 = true) (h2 : x2 = 0 ∨ valued x2 = true) (h3 : x3 = 0 ∨ valued x3 = true) (h : (takenS x1 x2 x3 t).2 = 0) : valued (takenS x1 x2 x3 t).1 = true := by
  unfold takenS at h ⊢
  repeat' split at h
  all_goals first
    | (exfalso; revert h; decide)
    | simp_all
theorem rowB_val (op : Int) : ((rowB op).1 = 0 ∨ valued (rowB op).1 = true) ∧ ((rowB op).2.1 = 0 ∨ valued (rowB op).2.1 = true) ∧ ((rowB op).2.2 = 0 ∨ valued (rowB op).2.2 = true) := by
  unfold rowB
  repeat' split
  all_goals decide
theorem bin_val {op a b : Int} (h : (binS op a b).2 = 0) : valued (binS op a b).1 = true := by
  unfold binS at h ⊢
  split at h
  · exfalso; revert h; decide
  split at h
  · exfalso; revert h; decide
  rename_i h1 h2
  rw [if_neg h1, if_neg h2]
  exact takenS_val (rowB_val op).1 (rowB_val op).2.1 (rowB_val op).2.2 h
theorem Vd.app {a b : List Int} (ha : Vd a) (hb : Vd b) : Vd (a ++ b) := fun t ht => by
  rcases List.mem_append.1 ht with h | h
  · exact ha t h
  · exact hb t h
theorem Vd.one {t : Int} (h : valued t = true) : Vd [t] := fun x hx => by
  simp at hx
  rw [hx]; exact h
theorem Vd.sub {a b : List Int} (ha : Vd a) (h : ∀ t ∈ b, t ∈ a) : Vd b := fun t ht => ha t (h t ht)
theorem tk_sub {st l r : List Int} (h : tk st l = some r) : ∀ t ∈ r, t ∈ st := by
  unfold tk at h
  split at h
  · cases h
    intro t ht
    exact List.mem_of_mem_take ht
  · cases h
theorem tp_sub {st r : List Int} {t : Int} (h : tp st = some (r, t)) : (∀ x ∈ r, x ∈ st) ∧ t ∈ st ∧ st = r ++ [t] := by
  unfold tp at h
  split at h
  · cases h
  · rename_i u hu
    simp only [Option.some.injEq, Prod.mk.injEq] at h
    obtain ⟨rfl, rfl⟩ := h
    have hne : st ≠ [] := by rintro rfl; simp at hu
    have e := List.dropLast_concat_getLast hne
    have hl : st.getLast hne = u := by
      have := List.getLast?_eq_some_getLast hne
      rw [this] at hu
      exact Option.some.inj hu
    rw [hl] at e
    exact ⟨fun x hx => List.dropLast_subset _ hx, by rw [← hl]; exact List.getLast_mem hne, e.symm⟩
/-- What is asked of a function and a program ahead of the shapes. -/
structure OkF (f : Fu) (p : Fm) : Prop where
  loc : Vd f.loc
  vars : Vd p.vars
  res : f.sg.res = 0 ∨ valued f.sg.res = true
  fns : ∀ g ∈ p.fns, Vd g.ps ∧ (g.res = 0 ∨ valued g.res = true)
/-- Of an instruction that is right: what the shapes hang on. -/
structure OkI (i : In) : Prop where
  n : 0 ≤ i.n
  push : i.op = 1 → valued i.t = true
theorem on_ok {s : Sp} {st : List Int} {a b : Option Sp} (hs : OkS s) (hst : Vd st) (h : on s st = some (a, b)) : (∀ x, a = some x → OkS x) ∧ (∀ x, b = some x → OkS x) := by
  have h : some (some (⟨st, s.tr⟩ : Sp), (none : Option Sp)) = some (a, b) := h
  cases h
  refine ⟨fun x hx => ?_, fun x hx => (by cases hx)⟩
  cases hx
  exact ⟨hst, hs.tr⟩
theorem step_ok {f : Fu} {p : Fm} {i : In} {s : Sp} {a b : Option Sp} (hf : OkF f p) (hi : OkI i) (hs : OkS s) (h : stepS f p i s = some (a, b)) : (∀ x, a = some x → OkS x) ∧ (∀ x, b = some x → OkS x) := by
  rw [stepS.eq_1] at h
  have hloc : ∀ t, f.loc[i.n.toNat]? = some t → valued t = true := fun t ht => hf.loc t (List.mem_of_getElem? ht)
  have hvar : ∀ t, p.vars[i.n.toNat]? = some t → valued t = true := fun t ht => hf.vars t (List.mem_of_getElem? ht)
  by_cases c1 : i.op = 1
  · rw [if_pos c1] at h
    exact on_ok hs (hs.st.app (Vd.one (hi.push c1))) h
  rw [if_neg c1] at h
  by_cases c2 : i.op = 2
  · rw [if_pos c2] at h
    obtain ⟨t, h1, h2⟩ := Option.bind_eq_some_iff.1 h
    exact on_ok hs (hs.st.app (Vd.one (hloc t h1))) h2
  rw [if_neg c2] at h
  by_cases c3 : i.op = 3
  · rw [if_pos c3] at h
    obtain ⟨t, h1, h2⟩ := Option.bind_eq_some_iff.1 h
    obtain ⟨r, h3, h4⟩ := Option.bind_eq_some_iff.1 h2
    exact on_ok hs (hs.st.sub (tk_sub h3)) h4
  rw [if_neg c3] at h
  by_cases c4 : i.op = 4
  · rw [if_pos c4] at h
    obtain ⟨t, h1, h2⟩ := Option.bind_eq_some_iff.1 h
    exact on_ok hs (hs.st.app (Vd.one (hvar t h1))) h2
  rw [if_neg c4] at h
  by_cases c5 : i.op = 5
  · rw [if_pos c5] at h
    obtain ⟨t, h1, h2⟩ := Option.bind_eq_some_iff.1 h
    obtain ⟨r, h3, h4⟩ := Option.bind_eq_some_iff.1 h2
    exact on_ok hs (hs.st.sub (tk_sub h3)) h4
  rw [if_neg c5] at h
  by_cases c6 : i.op = 6
  · rw [if_pos c6] at h
    obtain ⟨⟨r, t⟩, h1, h2⟩ := Option.bind_eq_some_iff.1 h
    split at h2
    · rename_i hz
      exact on_ok hs ((hs.st.sub (tp_sub h1).1).app (Vd.one (un_val hz))) h2
    · cases h2
  rw [if_neg c6] at h
  by_cases c7 : i.op = 7
  · rw [if_pos c7] at h
    obtain ⟨⟨r, t⟩, h1, h2⟩ := Option.bind_eq_some_iff.1 h
    obtain ⟨⟨q, u⟩, h3, h4⟩ := Option.bind_eq_some_iff.1 h2
    split at h4
    · rename_i hz
      exact on_ok hs (((hs.st.sub (tp_sub h1).1).sub (tp_sub h3).1).app (Vd.one (bin_val hz))) h4
    · cases h4
  rw [if_neg c7] at h
  by_cases c8 : i.op = 8
  · rw [if_pos c8] at h
    simp only [Option.some.injEq, Prod.mk.injEq] at h
    obtain ⟨rfl, rfl⟩ := h
    exact ⟨fun x hx => (by cases hx), fun x hx => (by cases hx; exact hs)⟩
  rw [if_neg c8] at h
  by_cases c9 : i.op = 9
  · rw [if_pos c9] at h
    obtain ⟨r, h1, h2⟩ := Option.bind_eq_some_iff.1 h
    simp only [Option.some.injEq, Prod.mk.injEq] at h2
    obtain ⟨rfl, rfl⟩ := h2
    exact ⟨fun x hx => (by cases hx; exact ⟨hs.st.sub (tk_sub h1), hs.tr⟩), fun x hx => (by cases hx; exact ⟨hs.st.sub (tk_sub h1), hs.tr⟩)⟩
  rw [if_neg c9] at h
  by_cases c10 : i.op = 10
  · rw [if_pos c10] at h
    obtain ⟨g, h1, h2⟩ := Option.bind_eq_some_iff.1 h
    obtain ⟨r, h3, h4⟩ := Option.bind_eq_some_iff.1 h2
    have hg := hf.fns g (List.mem_of_getElem? h1)
    split at h4
    · exact on_ok hs (hs.st.sub (tk_sub h3)) h4
    · rename_i hz
      exact on_ok hs ((hs.st.sub (tk_sub h3)).app (Vd.one (hg.2.resolve_left hz))) h4
  rw [if_neg c10] at h
  by_cases c11 : i.op = 11
  · rw [if_pos c11] at h
    split at h
    · cases h; exact ⟨fun x hx => (by cases hx), fun x hx => (by cases hx)⟩
    · obtain ⟨r, h1, h2⟩ := Option.bind_eq_some_iff.1 h
      cases h2; exact ⟨fun x hx => (by cases hx), fun x hx => (by cases hx)⟩
  rw [if_neg c11] at h
  by_cases c12 : i.op = 12
  · rw [if_pos c12] at h
    obtain ⟨⟨r, t⟩, h1, h2⟩ := Option.bind_eq_some_iff.1 h
    exact on_ok hs (hs.st.sub (tp_sub h1).1) h2
  rw [if_neg c12] at h
  by_cases c13 : i.op = 13
  · rw [if_pos c13] at h
    obtain ⟨r, h1, h2⟩ := Option.bind_eq_some_iff.1 h
    cases h2; exact ⟨fun x hx => (by cases hx), fun x hx => (by cases hx)⟩
  rw [if_neg c13] at h
  by_cases c14 : i.op = 14
  · rw [if_pos c14] at h
    exact on_ok hs (hs.st.app (Vd.one (by decide))) h
  rw [if_neg c14] at h
  by_cases c15 : i.op = 15
  · rw [if_pos c15] at h
    simp only [Option.some.injEq, Prod.mk.injEq] at h
    obtain ⟨rfl, rfl⟩ := h
    refine ⟨fun x hx => ?_, fun x hx => ?_⟩
    · cases hx
      refine ⟨hs.st, fun y hy => ?_⟩
      rcases List.mem_append.1 hy with hy | hy
      · exact hs.tr y hy
      · simp at hy
        subst hy
        exact ⟨hi.n, hs.st⟩
    · cases hx
      exact ⟨hs.st.app (Vd.one (by decide)), hs.tr⟩
  rw [if_neg c15] at h
  by_cases c16 : i.op = 16
  · rw [if_pos c16] at h
    split at h
    · cases h
    · simp only [Option.some.injEq, Prod.mk.injEq] at h
      obtain ⟨rfl, rfl⟩ := h
      exact ⟨fun x hx => (by cases hx; exact ⟨hs.st, fun y hy => hs.tr y (List.dropLast_subset _ hy)⟩), fun x hx => (by cases hx)⟩
  · rw [if_neg c16] at h
    obtain ⟨⟨r, t⟩, h1, h2⟩ := Option.bind_eq_some_iff.1 h
    exact on_ok hs (hs.st.sub (tp_sub h1).1) h2
end Go.Proofs.YtoiglopilpoafaaGreatDoor.Cd

namespace Go.Proofs.YtoiglopilpoafaaGreatDoor.Cd
open Go.RowKit Ty
set_option linter.unusedSimpArgs false
set_option linter.unusedVariables false

def rightS (i : In) : Bool := known i.op && (if i.op = 1 then rightV i.t i.b else i.t == 0 && i.b == 0) && decide (lo i.op ≤ i.n) && decide (i.n ≤ hi i.op)
/-- An instruction that can be: the numbers that it has fit. -/
structure OkIn (i : In) : Prop where
  op : Ty.I64 i.op
  n : Ty.I64 i.n
  t : Ty.I64 i.t
  b : U64 i.b
def be : Nat → Nat → Bs
  | 0, _ => []
  | k + 1, n => UInt8.ofNat (n / 256 ^ k % 256) :: be k n
def numGo (a : Nat) : Bs → Nat
  | [] => a
  | c :: r => numGo (a * 256 + c.toNat) r
def encI (i : In) : Bs := UInt8.ofNat i.op.toNat :: (if i.op = 1 then UInt8.ofNat i.t.toNat :: be 8 i.b.toNat else be (wd i.op) i.n.toNat)
def encS (l : List In) : Bs := l.flatMap encI
def rawI (b : Bs) : In := match b with
  | [] => default
  | c :: r => if c.toNat = 1 then ⟨1, 0, ((r.getD 0 0).toNat : Int), (numGo 0 ((r.drop 1).take 8) : Int)⟩ else ⟨(c.toNat : Int), (numGo 0 (r.take (wd (c.toNat : Int))) : Int), 0, 0⟩
def firstS (b : Bs) : Option In := match b with
  | [] => none
  | c :: r => if sizeS (c.toNat : Int) = 0 ∨ ((c :: r).length : Int) < sizeS (c.toNat : Int) then none else if rightS (rawI (c :: r)) then some (rawI (c :: r)) else none
def decGo : Nat → List In → Bs → Int × List In
  | 0, _, _ => (0, [])
  | j + 1, acc, [] => (0, acc)
  | j + 1, acc, c :: r => match firstS (c :: r) with
    | none => (51, [])
    | some i => if acc.length = 4096 then (3, []) else decGo j (acc ++ [i]) ((c :: r).drop (sizeS (c.toNat : Int)).toNat)
def decS (b : Bs) : Int × List In := decGo (b.length + 1) [] b
def encA (l : List In) : Int × Bs := if 4096 < l.length then (3, []) else if l.all rightS then (0, encS l) else (51, [])
def nmS (op : Int) : Bs :=
  if op = 1 then [112, 117, 115, 104] else if op = 2 then [103, 101, 116] else if op = 3 then [112, 117, 116] else if op = 4 then [108, 111, 97, 100]
  else if op = 5 then [115, 116, 111, 114, 101] else if op = 6 then [117, 110] else if op = 7 then [98, 105, 110] else if op = 8 then [106, 117, 109, 112]
  else if op = 9 then [117, 110, 108, 101, 115, 115] else if op = 10 then [99, 97, 108, 108] else if op = 11 then [114, 101, 116, 117, 114, 110] else if op = 12 then [115, 104, 111, 119]
  else if op = 13 then [102, 97, 105, 108] else if op = 14 then [105, 110, 112, 117, 116] else if op = 15 then [116, 114, 121] else if op = 16 then [117, 110, 116, 114, 121] else [100, 114, 111, 112]
def unW (n : Int) : Bs := if n = 1 then [110, 101, 103] else if n = 2 then [110, 111, 116] else if n = 3 then [105, 110, 116] else [102, 108, 111, 97, 116]
def binW (n : Int) : Bs :=
  if n = 1 then [43] else if n = 2 then [45] else if n = 3 then [42] else if n = 4 then [47] else if n = 5 then [37] else if n = 6 then [61, 61] else if n = 7 then [33, 61]
  else if n = 8 then [60] else if n = 9 then [60, 61] else if n = 10 then [62] else [62, 61]
def operS (i : In) : Bs := if i.op = 1 then showS i.t i.b else if i.op = 6 then unW i.n else if i.op = 7 then binW i.n else Lib.itoa i.n
def textS (i : In) : Bs := if rightS i then (if i.op ≠ 1 ∧ wd i.op = 0 then nmS i.op else nmS i.op ++ [32] ++ operS i) else []
def textsGo : Nat → List In → Bs
  | _, [] => []
  | k, i :: r => (Lib.itoa (k : Int) ++ [32] ++ textS i ++ [10]) ++ textsGo (k + 1) r

theorem known_iff (op : Int) : known op = true ↔ (op = 1 ∨ op = 2 ∨ op = 3 ∨ op = 4 ∨ op = 5 ∨ op = 6 ∨ op = 7 ∨ op = 8 ∨ op = 9 ∨ op = 10 ∨ op = 11 ∨ op = 12 ∨ op = 13 ∨ op = 14 ∨ op = 15 ∨ op = 16 ∨ op = 17) := by
  simp only [known, decide_eq_true_eq]
  omega
theorem right_parts {i : In} (h : rightS i = true) : known i.op = true ∧ (if i.op = 1 then rightV i.t i.b else i.t == 0 && i.b == 0) = true ∧ lo i.op ≤ i.n ∧ i.n ≤ hi i.op := by
  simp only [rightS, Bool.and_eq_true, decide_eq_true_eq] at h
  obtain ⟨⟨⟨h1, h2⟩, h3⟩, h4⟩ := h
  exact ⟨h1, by simpa using h2, h3, h4⟩
theorem lo_pos (op : Int) : 0 ≤ lo op := by unfold lo; split <;> omega
theorem right_val {t b : Int} (h : rightV t b = true) : valued t = true := by
  unfold rightV at h
  rw [valued_iff]
  by_cases h1 : t = 1
  · exact Or.inl h1
  by_cases h2 : t = 2
  · exact Or.inr (Or.inl h2)
  by_cases h3 : t = 3
  · exact Or.inr (Or.inr h3)
  rw [if_neg h1, if_neg h2, if_neg h3] at h
  cases h
theorem right_okI {i : In} (h : rightS i = true) : OkI i := by
  obtain ⟨h1, h2, h3, h4⟩ := right_parts h
  refine ⟨Int.le_trans (lo_pos _) h3, fun e => ?_⟩
  rw [if_pos e] at h2
  exact right_val h2
theorem be_len : ∀ (k n : Nat), (be k n).length = k
  | 0, n => rfl
  | k + 1, n => by simp [be, be_len k n]
theorem u8_of (n : Nat) (h : n < 256) : (UInt8.ofNat n).toNat = n := by
  simp [UInt8.toNat_ofNat']
  omega
theorem numGo_be : ∀ (k n a : Nat) (r : Bs), numGo a (be k n ++ r) = numGo (a * 256 ^ k + n % 256 ^ k) r
  | 0, n, a, r => by simp [be, Nat.mod_one]
  | k + 1, n, a, r => by
    simp only [be, List.cons_append, numGo]
    rw [numGo_be k n _ r, u8_of _ (Nat.mod_lt _ (by decide))]
    congr 1
    have h1 : 256 ^ (k + 1) = 256 * 256 ^ k := by rw [Nat.pow_succ, Nat.mul_comm]
    have h2 : n % (256 ^ k * 256) = n % 256 ^ k + 256 ^ k * (n / 256 ^ k % 256) := Nat.mod_mul
    rw [Nat.pow_succ, h2, Nat.add_mul, Nat.mul_assoc, Nat.mul_comm 256 (256 ^ k), Nat.mul_comm (n / 256 ^ k % 256) (256 ^ k)]
    omega
theorem numGo_lt : ∀ (l : Bs) (a : Nat), numGo a l < (a + 1) * 256 ^ l.length
  | [], a => by simp [numGo]
  | c :: r, a => by
    have h := numGo_lt r (a * 256 + c.toNat)
    have hc := UInt8.toNat_lt c
    simp only [numGo, List.length_cons]
    refine Nat.lt_of_lt_of_le h ?_
    rw [Nat.pow_succ, Nat.mul_comm (256 ^ r.length) 256, ← Nat.mul_assoc]
    exact Nat.mul_le_mul_right _ (by omega)
theorem be_num : ∀ (l : Bs) (a : Nat), be l.length (numGo a l) = l
  | [], a => rfl
  | c :: r, a => by
    simp only [List.length_cons, be, numGo]
    have hb := be_num r (a * 256 + c.toNat)
    rw [hb]
    congr 1
    -- numGo x r = x * 256 ^ len + (small)
    have key : ∀ (r : Bs) (x : Nat), numGo x r / 256 ^ r.length = x := by
      intro r
      induction r with
      | nil => intro x; simp [numGo]
      | cons d r ih =>
        intro x
        simp only [numGo, List.length_cons]
        rw [Nat.pow_succ, ← Nat.div_div_eq_div_mul, ih]
        have := UInt8.toNat_lt d
        omega
    rw [key]
    have hc := UInt8.toNat_lt c
    rw [show (a * 256 + c.toNat) % 256 = c.toNat by omega]
    exact UInt8.ofNat_toNat
theorem encI_len {i : In} (h : known i.op = true) : ((encI i).length : Int) = sizeS i.op := by
  unfold encI sizeS
  rw [if_pos h]
  by_cases e : i.op = 1
  · simp [e, be_len]
  · simp [e, be_len]
    omega
theorem size_pos {op : Int} (h : known op = true) : 0 < sizeS op := by
  unfold sizeS
  rw [if_pos h]
  split <;> omega
theorem hi_lt {i : In} (h : rightS i = true) (h1 : i.op ≠ 1) : i.n.toNat < 256 ^ wd i.op ∧ 0 ≤ i.n := by
  obtain ⟨hk, _, h3, h4⟩ := right_parts h
  have h0 := Int.le_trans (lo_pos _) h3
  refine ⟨?_, h0⟩
  generalize i.op = op at *
  generalize i.n = n at *
  rcases (known_iff op).1 hk with e | e | e | e | e | e | e | e | e | e | e | e | e | e | e | e | e <;> subst e <;> simp [hi, wd] at h4 ⊢ <;> omega
theorem val_small {i : In} (h : rightS i = true) (h1 : i.op = 1) : 0 ≤ i.t ∧ i.t < 256 := by
  obtain ⟨_, h2, _, _⟩ := right_parts h
  rw [if_pos h1] at h2
  rcases (valued_iff _).1 (right_val h2) with e | e | e <;> rw [e] <;> decide
theorem raw_enc {i : In} (h : rightS i = true) (hb : U64 i.b) (r : Bs) : rawI (encI i ++ r) = i := by
  obtain ⟨hk, h2, h3, h4⟩ := right_parts h
  obtain ⟨op, n, t, b⟩ := i
  simp only at *
  have hop : (UInt8.ofNat op.toNat).toNat = op.toNat := u8_of _ (by simp only [known, decide_eq_true_eq] at hk; omega)
  have hop0 : 1 ≤ op ∧ op ≤ 17 := by simpa [known] using hk
  by_cases e : op = 1
  · subst e
    have ht := val_small h rfl
    simp only at ht
    have hn : n = 0 := by simp [lo, hi, wd] at h3 h4; omega
    simp only [encI, rawI, List.cons_append, if_pos, show ((UInt8.ofNat (1 : Int).toNat).toNat) = 1 from rfl]
    have hb' : (numGo 0 (be 8 b.toNat ++ [])) = b.toNat := by
      rw [numGo_be]
      obtain ⟨b0, b1⟩ := hb
      simp only [numGo, Nat.zero_mul, Nat.zero_add]
      exact Nat.mod_eq_of_lt (by omega)
    simp only [List.getD_cons_zero, List.drop_succ_cons, List.drop_zero]
    rw [List.take_append_of_le_length (by rw [be_len]; exact Nat.le_refl _), List.take_of_length_le (by rw [be_len]; exact Nat.le_refl _)]
    rw [List.append_nil] at hb'
    rw [hb', u8_of _ (by omega)]
    obtain ⟨b0, b1⟩ := hb
    simp only [In.mk.injEq, true_and]
    refine ⟨hn.symm, by omega, by omega⟩
  · have hw := hi_lt h e
    simp only at hw
    have hne : ¬ op.toNat = 1 := by omega
    have hop' : ((op.toNat : Nat) : Int) = op := by omega
    simp only [encI, rawI, List.cons_append, hop, if_neg e, if_neg hne, hop']
    rw [if_neg e] at h2
    simp only [Bool.and_eq_true, beq_iff_eq] at h2
    rw [List.take_append_of_le_length (by rw [be_len]; exact Nat.le_refl _), List.take_of_length_le (by rw [be_len]; exact Nat.le_refl _)]
    have hq : numGo 0 (be (wd op) n.toNat ++ []) = n.toNat := by
      rw [numGo_be]
      simp only [numGo, Nat.zero_mul, Nat.zero_add]
      exact Nat.mod_eq_of_lt hw.1
    rw [List.append_nil] at hq
    rw [hq]
    simp only [In.mk.injEq, true_and]
    exact ⟨by omega, h2.1.symm, h2.2.symm⟩
theorem enc_head {i : In} (h : known i.op = true) : ∃ r, encI i = UInt8.ofNat i.op.toNat :: r ∧ ((UInt8.ofNat i.op.toNat).toNat : Int) = i.op := by
  refine ⟨_, rfl, ?_⟩
  simp only [known, decide_eq_true_eq] at h
  rw [u8_of _ (by omega)]
  omega
theorem first_enc {i : In} (h : rightS i = true) (hb : U64 i.b) (r : Bs) : firstS (encI i ++ r) = some i := by
  have hk := (right_parts h).1
  obtain ⟨q, e1, e2⟩ := enc_head hk
  have hr := raw_enc h hb r
  have hl := encI_len hk
  rw [e1] at hr hl ⊢
  simp only [List.cons_append] at hr ⊢
  unfold firstS
  simp only [e2]
  rw [if_neg, hr, if_pos h]
  have := size_pos hk
  simp only [List.length_cons, List.length_append] at hl ⊢
  omega
theorem first_dec {b : Bs} {i : In} (h : firstS b = some i) : rightS i = true ∧ b = encI i ++ b.drop (sizeS i.op).toNat ∧ U64 i.b ∧ b.head?.map (fun c => (c.toNat : Int)) = some i.op := by
  unfold firstS at h
  split at h
  · cases h
  rename_i c r
  split at h
  · cases h
  rename_i hc
  by_cases hr : rightS (rawI (c :: r)) = true
  case neg => rw [if_neg hr] at h; cases h
  rw [if_pos hr] at h
  cases h
  have hk := (right_parts hr).1
  have hc' : ¬ sizeS (c.toNat : Int) = 0 ∧ sizeS (c.toNat : Int) ≤ ((c :: r).length : Int) := by omega
  by_cases e : c.toNat = 1
  · have hcc : c = 1 := UInt8.toNat_inj.1 (by rw [e]; rfl)
    subst hcc
    have e10 : sizeS ((1 : UInt8).toNat : Int) = 10 := by decide
    rw [e10] at hc'
    simp only [List.length_cons] at hc'
    obtain ⟨d, r, rfl⟩ : ∃ d q, r = d :: q := by
      cases r with
      | nil => simp at hc'
      | cons d q => exact ⟨d, q, rfl⟩
    simp only [List.length_cons] at hc'
    have hl8 : 8 ≤ r.length := by omega
    refine ⟨hr, ?_, ?_, ?_⟩
    · simp only [rawI, if_pos e, List.getD_cons_zero, List.drop_succ_cons, List.drop_zero]
      have hs : sizeS 1 = 10 := by decide
      simp only [encI, hs, if_pos]
      have ht : (r.take 8).length = 8 := by rw [List.length_take]; omega
      have := be_num (r.take 8) 0
      rw [ht] at this
      simp only [Int.toNat_natCast, this, UInt8.ofNat_toNat]
      simp
    · simp only [rawI, if_pos e, List.getD_cons_zero, List.drop_succ_cons, List.drop_zero]
      have := numGo_lt (r.take 8) 0
      have ht : (r.take 8).length = 8 := by rw [List.length_take]; omega
      rw [ht] at this
      unfold U64
      constructor <;> omega
    · simp [rawI]
  · have hop : (rawI (c :: r)).op = (c.toNat : Int) := by simp only [rawI, if_neg e]
    refine ⟨hr, ?_, ?_, ?_⟩
    · rw [hop]
      rw [hop] at hk
      have hcs : sizeS (c.toNat : Int) = 1 + (wd (c.toNat : Int) : Int) := by
        unfold sizeS
        rw [if_pos hk, if_neg (by omega)]
      rw [hcs] at hc' ⊢
      simp only [List.length_cons] at hc'
      have hl : wd (c.toNat : Int) ≤ r.length := by omega
      have hne : ¬ ((c.toNat : Nat) : Int) = 1 := by omega
      simp only [rawI, if_neg e, encI, if_neg hne, Int.toNat_natCast, UInt8.ofNat_toNat]
      have ht : (r.take (wd (c.toNat : Int))).length = wd (c.toNat : Int) := by rw [List.length_take]; omega
      have := be_num (r.take (wd (c.toNat : Int))) 0
      rw [ht] at this
      rw [this, show (1 + (wd (c.toNat : Int) : Int)).toNat = wd (c.toNat : Int) + 1 by omega]
      simp
    · simp only [rawI, if_neg e]
      exact ⟨by decide, by decide⟩
    · simp [hop]
end Go.Proofs.YtoiglopilpoafaaGreatDoor.Cd
