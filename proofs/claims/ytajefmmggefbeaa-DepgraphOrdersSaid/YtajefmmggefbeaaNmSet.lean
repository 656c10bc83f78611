/- Lists of texts as sets: sorted, each once. -/
import Derived.Lib.SlicesCompact
namespace Go.Proofs.Ytajefmmggefbeaa
set_option linter.unusedSimpArgs false
set_option linter.unusedVariables false

abbrev Str := List UInt8

/-- A set: in order, each once. -/
def SS (l : List Str) : Prop := l.Pairwise (· < ·)

theorem SS.ext : ∀ {a b : List Str}, SS a → SS b → (∀ x, x ∈ a ↔ x ∈ b) → a = b
  | [], [], _, _, _ => rfl
  | [], y :: b, _, _, h => absurd ((h y).2 (by simp)) (by simp)
  | x :: a, [], _, _, h => absurd ((h x).1 (by simp)) (by simp)
  | x :: a, y :: b, ha, hb, h => by
    obtain ⟨ha1, ha2⟩ := List.pairwise_cons.1 ha
    obtain ⟨hb1, hb2⟩ := List.pairwise_cons.1 hb
    have e : x = y := by
      rcases List.mem_cons.1 ((h x).1 (by simp)) with e | hx
      · exact e
      · rcases List.mem_cons.1 ((h y).2 (by simp)) with e | hy
        · exact e.symm
        · exact absurd (Std.lt_trans (ha1 y hy) (hb1 x hx)) Std.lt_irrefl
    subst e
    have ht : a = b := SS.ext ha2 hb2 fun z => by
      constructor
      · intro hz
        rcases List.mem_cons.1 ((h z).1 (by simp [hz])) with e | hz'
        · subst e; exact absurd (ha1 z hz) Std.lt_irrefl
        · exact hz'
      · intro hz
        rcases List.mem_cons.1 ((h z).2 (by simp [hz])) with e | hz'
        · subst e; exact absurd (hb1 z hz) Std.lt_irrefl
        · exact hz'
    rw [ht]

def sortS (l : List Str) : List Str := l.mergeSort fun x y => decide (x ≤ y)
def setS (l : List Str) : List Str := Lib.compact (sortS l)

theorem sortS_sorted (l : List Str) : (sortS l).Pairwise (· ≤ ·) := by
  have := List.pairwise_mergeSort (le := fun x y : Str => decide (x ≤ y)) (fun a b c h g => by
    simp only [decide_eq_true_eq] at *; exact List.le_trans h g) (fun a b => by
    rcases List.le_total a b with h | h <;> simp [h]) l
  exact this.imp (fun h => by simpa using h)
theorem mem_sortS (l : List Str) (x : Str) : x ∈ sortS l ↔ x ∈ l := List.mem_mergeSort
theorem length_sortS (l : List Str) : (sortS l).length = l.length := List.length_mergeSort _

theorem compactUpTo_set (d : Array Str) (hd : ∀ i j, i ≤ j → j < d.size → d[i]! ≤ d[j]!) : ∀ m, m ≤ d.size → SS (Lib.compactUpTo d m) ∧ ∀ x, x ∈ Lib.compactUpTo d m ↔ ∃ j, j < m ∧ d[j]! = x
  | 0, _ => by
    have : Lib.compactUpTo d 0 = [] := rfl
    rw [this]
    exact ⟨List.Pairwise.nil, fun x => by simp⟩
  | m + 1, hm => by
    obtain ⟨h1, h2⟩ := compactUpTo_set d hd m (by omega)
    rw [Lib.compactUpTo_succ]
    by_cases hk : Lib.keeps d m = true
    · rw [if_pos hk]
      have hlt : ∀ j, j < m → d[j]! < d[m]! := fun j hj => by
        have hne : d[m]! ≠ d[m - 1]! := by
          have : m = 0 ∨ d[m]! ≠ d[m - 1]! := by simpa [Lib.keeps] using hk
          rcases this with h | h
          · omega
          · exact h
        exact Std.lt_of_le_of_lt (hd j (m - 1) (by omega) (by omega)) (Std.lt_of_le_of_ne (hd (m - 1) m (by omega) (by omega)) (Ne.symm hne))
      refine ⟨List.pairwise_append.2 ⟨h1, by simp, fun a ha b hb => ?_⟩, fun x => ?_⟩
      · obtain ⟨j, hj, rfl⟩ := (h2 a).1 ha
        have : b = d[m]! := by simpa using hb
        subst this
        exact hlt j hj
      · rw [List.mem_append, h2]
        constructor
        · rintro (⟨j, hj, e⟩ | h)
          · exact ⟨j, by omega, e⟩
          · exact ⟨m, by omega, (by simpa using h : x = d[m]!).symm⟩
        · rintro ⟨j, hj, e⟩
          by_cases hjm : j = m
          · subst hjm; right; simp [e]
          · exact Or.inl ⟨j, by omega, e⟩
    · rw [if_neg hk, List.append_nil]
      refine ⟨h1, fun x => ?_⟩
      rw [h2]
      have hk' : m ≠ 0 ∧ d[m]! = d[m - 1]! := by
        have : ¬ (m = 0 ∨ d[m]! ≠ d[m - 1]!) := by simpa [Lib.keeps] using hk
        exact ⟨fun e => this (Or.inl e), Classical.byContradiction fun e => this (Or.inr e)⟩
      constructor
      · rintro ⟨j, hj, e⟩
        exact ⟨j, by omega, e⟩
      · rintro ⟨j, hj, e⟩
        by_cases hjm : j = m
        · subst hjm; exact ⟨j - 1, by omega, by rw [← hk'.2]; exact e⟩
        · exact ⟨j, by omega, e⟩

theorem setS_both (l : List Str) : SS (setS l) ∧ ∀ x, x ∈ setS l ↔ x ∈ l := by
  have hs := sortS_sorted l
  have hd : ∀ i j, i ≤ j → j < (sortS l).toArray.size → (sortS l).toArray[i]! ≤ (sortS l).toArray[j]! := fun i j hij hj => by
    have hj' : j < (sortS l).length := by simpa using hj
    rw [getElem!_pos _ i (by simp; omega), getElem!_pos _ j hj]
    simp only [List.getElem_toArray]
    by_cases e : i = j
    · subst e; exact List.le_refl _
    · exact List.pairwise_iff_getElem.1 hs i j (by omega) hj' (by omega)
  obtain ⟨h1, h2⟩ := compactUpTo_set _ hd (sortS l).length (by simp)
  refine ⟨h1, fun x => ?_⟩
  show x ∈ Lib.compactUpTo _ _ ↔ _
  rw [h2, ← mem_sortS l x]
  constructor
  · rintro ⟨j, hj, rfl⟩
    rw [getElem!_pos _ j (by simpa using hj)]
    simp
  · intro hx
    obtain ⟨j, hj, e⟩ := List.getElem_of_mem hx
    exact ⟨j, hj, by rw [getElem!_pos _ j (by simpa using hj)]; simpa using e⟩
theorem setS_ss (l : List Str) : SS (setS l) := (setS_both l).1
theorem mem_setS {l : List Str} {x : Str} : x ∈ setS l ↔ x ∈ l := (setS_both l).2 x
theorem setS_len (l : List Str) : (setS l).length ≤ l.length := by
  show (Lib.compactUpTo _ _).length ≤ _
  unfold Lib.compactUpTo
  rw [List.length_map]
  refine Nat.le_trans (List.length_filter_le _ _) ?_
  rw [List.length_range, length_sortS]
  exact Nat.le_refl _
theorem setS_eq {a b : List Str} (h : ∀ x, x ∈ a ↔ x ∈ b) : setS a = setS b := (setS_ss a).ext (setS_ss b) fun x => by rw [mem_setS, mem_setS, h]
theorem setS_of_ss {a : List Str} (h : SS a) : setS a = a := (setS_ss a).ext h fun x => mem_setS

/-- Of the set of a those that are in b, or those that are not. -/
def bothS (a b : List Str) : List Str := (setS a).filter fun x => decide (x ∈ b)
def minusS (a b : List Str) : List Str := (setS a).filter fun x => !decide (x ∈ b)
theorem bothS_ss (a b : List Str) : SS (bothS a b) := (setS_ss a).filter _
theorem minusS_ss (a b : List Str) : SS (minusS a b) := (setS_ss a).filter _
theorem mem_bothS {a b : List Str} {x : Str} : x ∈ bothS a b ↔ x ∈ a ∧ x ∈ b := by
  unfold bothS
  rw [List.mem_filter, mem_setS, decide_eq_true_eq]
theorem mem_minusS {a b : List Str} {x : Str} : x ∈ minusS a b ↔ x ∈ a ∧ x ∉ b := by
  unfold minusS
  rw [List.mem_filter, mem_setS]
  simp
theorem bothS_len (a b : List Str) : (bothS a b).length ≤ a.length := Nat.le_trans (List.length_filter_le _ _) (setS_len a)
theorem minusS_len (a b : List Str) : (minusS a b).length ≤ a.length := Nat.le_trans (List.length_filter_le _ _) (setS_len a)

/-- The document's Put: what its loop makes, from any place on. -/
def putGo (s : Str) : List Str → List Str → Bool → List Str
  | [], out, done => if done then out else out ++ [s]
  | x :: r, out, done => if s = x then putGo s r (out ++ [x]) true else if s < x ∧ done = false then putGo s r (out ++ [s] ++ [x]) true else putGo s r (out ++ [x]) done
def putS (l : List Str) (s : Str) : List Str := putGo s l [] false

theorem putGo_spec (s : Str) : ∀ (r out : List Str) (done : Bool), SS (out ++ r) → (done = true → s ∈ out) → (done = false → ∀ x ∈ out, x < s) → SS (putGo s r out done) ∧ ∀ x, x ∈ putGo s r out done ↔ x ∈ out ++ r ∨ x = s
  | [], out, done, h1, h2, h3 => by
    rw [List.append_nil] at *
    unfold putGo
    cases done with
    | true =>
      refine ⟨h1, fun x => ⟨Or.inl, ?_⟩⟩
      rintro (h | rfl)
      · exact h
      · exact h2 rfl
    | false =>
      refine ⟨List.pairwise_append.2 ⟨h1, by simp, fun a ha b hb => ?_⟩, fun x => by simp⟩
      have : b = s := by simpa using hb
      subst this
      exact h3 rfl a ha
  | x :: r, out, done, h1, h2, h3 => by
    have h1' : SS ((out ++ [x]) ++ r) := by simpa using h1
    unfold putGo
    by_cases e : s = x
    · subst e
      rw [if_pos rfl]
      obtain ⟨a, b⟩ := putGo_spec s r (out ++ [s]) true h1' (by simp) (by simp)
      exact ⟨a, fun y => by rw [b y]; simp⟩
    · rw [if_neg e]
      by_cases hc : s < x ∧ done = false
      · rw [if_pos hc]
        have hout := h3 hc.2
        obtain ⟨p1, p2, p3⟩ := List.pairwise_append.1 h1
        obtain ⟨q1, q2⟩ := List.pairwise_cons.1 p2
        have hs : SS (out ++ [s] ++ [x] ++ r) := by
          have : SS (out ++ (s :: x :: r)) := by
            refine List.pairwise_append.2 ⟨p1, List.pairwise_cons.2 ⟨fun y hy => ?_, p2⟩, fun a ha b hb => ?_⟩
            · rcases List.mem_cons.1 hy with rfl | hy
              · exact hc.1
              · exact Std.lt_trans hc.1 (q1 y hy)
            · rcases List.mem_cons.1 hb with rfl | hb
              · exact hout a ha
              · exact p3 a ha b hb
          simpa using this
        obtain ⟨a, b⟩ := putGo_spec s r (out ++ [s] ++ [x]) true hs (by simp) (by simp)
        refine ⟨a, fun y => ?_⟩
        rw [b y]
        simp only [List.mem_append, List.mem_cons, List.not_mem_nil, or_false]
        by_cases g1 : y ∈ out <;> by_cases g2 : y = s <;> by_cases g3 : y = x <;> by_cases g4 : y ∈ r <;> simp [g1, g2, g3, g4]
      · rw [if_neg hc]
        obtain ⟨a, b⟩ := putGo_spec s r (out ++ [x]) done h1' (fun h => by simp [h2 h]) (fun h y hy => by
          rcases List.mem_append.1 hy with hy | hy
          · exact h3 h y hy
          · have : y = x := by simpa using hy
            subst this
            rcases Std.lt_trichotomy s y with g | g | g
            · exact absurd ⟨g, h⟩ hc
            · exact absurd g e
            · exact g)
        exact ⟨a, fun y => by rw [b y]; simp⟩
theorem putS_spec {l : List Str} (s : Str) (h : SS l) : SS (putS l s) ∧ ∀ x, x ∈ putS l s ↔ x ∈ l ∨ x = s := by
  have := putGo_spec s l [] false (by simpa using h) (by simp) (by simp)
  rw [List.nil_append] at this
  exact this
theorem putGo_len (s : Str) : ∀ (r out : List Str) (done : Bool), (putGo s r out done).length ≤ out.length + r.length + (if done then 0 else 1)
  | [], out, done => by cases done <;> simp [putGo]
  | x :: r, out, done => by
    unfold putGo
    split
    · have := putGo_len s r (out ++ [x]) true
      simp at this ⊢
      omega
    · split
      · rename_i h
        have := putGo_len s r (out ++ [s] ++ [x]) true
        simp [h.2] at this ⊢
        omega
      · have := putGo_len s r (out ++ [x]) done
        simp at this ⊢
        omega
theorem putS_len (l : List Str) (s : Str) : (putS l s).length ≤ l.length + 1 := by
  have := putGo_len s l [] false
  simpa [putS] using this

theorem foldl_put : ∀ (b : List Str) (a : List Str), SS a → SS (b.foldl putS a) ∧ ∀ x, x ∈ b.foldl putS a ↔ x ∈ a ∨ x ∈ b
  | [], a, h => ⟨h, fun x => by simp⟩
  | s :: b, a, h => by
    obtain ⟨h1, h2⟩ := putS_spec s h
    obtain ⟨h3, h4⟩ := foldl_put b (putS a s) h1
    refine ⟨h3, fun x => ?_⟩
    rw [List.foldl_cons, h4, h2]
    simp [or_assoc]
theorem foldl_put_set (l : List Str) : l.foldl putS [] = setS l := by
  obtain ⟨h1, h2⟩ := foldl_put l [] List.Pairwise.nil
  exact h1.ext (setS_ss l) fun x => by rw [h2, mem_setS]; simp
theorem foldl_put_union (a b : List Str) : b.foldl putS (setS a) = setS (a ++ b) := by
  rw [← foldl_put_set a, ← List.foldl_append, foldl_put_set]

/-- The set algebra. -/
theorem set_comm (a b : List Str) : setS (b ++ a) = setS (a ++ b) := setS_eq fun x => by simp [or_comm]
theorem both_comm (a b : List Str) : bothS b a = bothS a b := (bothS_ss b a).ext (bothS_ss a b) fun x => by rw [mem_bothS, mem_bothS, and_comm]
theorem set_twice (a : List Str) : setS (setS a) = setS a := setS_of_ss (setS_ss a)
theorem union_self (a : List Str) : setS (a ++ a) = setS a := setS_eq fun x => by simp
theorem minus_both (a b : List Str) : setS (minusS a b ++ bothS a b) = setS a := setS_eq fun x => by
  rw [List.mem_append, mem_minusS, mem_bothS]
  by_cases h : x ∈ b <;> simp [h]
theorem minus_both_none (a b : List Str) : bothS (minusS a b) (bothS a b) = [] := by
  rw [List.eq_nil_iff_forall_not_mem]
  intro x hx
  rw [mem_bothS, mem_minusS, mem_bothS] at hx
  exact hx.1.2 hx.2.2
theorem union_assoc (a b c : List Str) : setS (a ++ setS (b ++ c)) = setS (setS (a ++ b) ++ c) := setS_eq fun x => by
  rw [List.mem_append, List.mem_append, mem_setS, mem_setS, List.mem_append, List.mem_append, or_assoc]
theorem both_union (a b c : List Str) : setS (bothS a b ++ bothS a c) = bothS a (setS (b ++ c)) := (setS_ss _).ext (bothS_ss _ _) fun x => by
  rw [mem_setS, List.mem_append, mem_bothS, mem_bothS, mem_bothS, mem_setS, List.mem_append]
  by_cases h : x ∈ a <;> simp [h]
end Go.Proofs.Ytajefmmggefbeaa
