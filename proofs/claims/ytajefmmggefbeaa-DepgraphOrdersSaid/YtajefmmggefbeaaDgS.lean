/- Graphs, in plain words: what a name leads to; users, what is missing, orders, levels, rings. -/
import Derived.Test.YtajefmmggefbeaaNmSet
namespace Go.Proofs.Ytajefmmggefbeaa.Dg
set_option linter.unusedSimpArgs false
set_option linter.unusedVariables false

/-- A graph: its nodes, in order, and what a name imports, in order. -/
structure Gr where
  ks : List Str
  im : Str → List Str
structure Gr.WF (g : Gr) : Prop where
  ks : SS g.ks
  im : ∀ n, SS (g.im n)
  no : ∀ n, n ∉ g.ks → g.im n = []
/-- There is a way. -/
inductive Reach (g : Gr) : Str → Str → Prop
  | one {a b : Str} : b ∈ g.im a → Reach g a b
  | more {a b c : Str} : Reach g a b → c ∈ g.im b → Reach g a c
theorem Reach.trans {g : Gr} {a b c : Str} (h : Reach g a b) (k : Reach g b c) : Reach g a c := by
  induction k with
  | one h1 => exact .more h h1
  | more _ h1 ih => exact .more ih h1
theorem Reach.first {g : Gr} {a c : Str} (h : Reach g a c) : c ∈ g.im a ∨ ∃ b, b ∈ g.im a ∧ Reach g b c := by
  induction h with
  | one h => exact Or.inl h
  | more h1 h2 ih =>
    rcases ih with ih | ⟨b, h3, h4⟩
    · exact Or.inr ⟨_, ih, .one h2⟩
    · exact Or.inr ⟨b, h3, .more h4 h2⟩
theorem Reach.last {g : Gr} {a c : Str} (h : Reach g a c) : c ∈ g.im a ∨ ∃ b, Reach g a b ∧ c ∈ g.im b := by
  cases h with
  | one h => exact Or.inl h
  | more h1 h2 => exact Or.inr ⟨_, h1, h2⟩
theorem Reach.node {g : Gr} (hg : g.WF) {a c : Str} (h : Reach g a c) : a ∈ g.ks := by
  have : g.im a ≠ [] := by
    rcases h.first with h | ⟨b, h, _⟩ <;> (intro e; rw [e] at h; cases h)
  exact Classical.byContradiction fun hn => this (hg.no a hn)

theorem nodup_of_ss {l : List Str} (h : SS l) : l.Nodup := List.Pairwise.imp (fun {a b} (hab : a < b) => fun e => Std.lt_irrefl (e ▸ hab : a < a)) h
theorem ss_filter {l : List Str} (h : SS l) (p : Str → Bool) : SS (l.filter p) := List.Pairwise.filter p h

def usersS (g : Gr) (n : Str) : List Str := g.ks.filter fun u => decide (n ∈ g.im u)
def missGo (g : Gr) : List Str → Option (Str × Str)
  | [] => none
  | u :: r => match (g.im u).find? (fun n => decide (n ∉ g.ks)) with
    | some n => some (u, n)
    | none => missGo g r
def missS (g : Gr) : Option (Str × Str) := missGo g g.ks
theorem missGo_none {g : Gr} : ∀ {l : List Str}, missGo g l = none ↔ ∀ u ∈ l, ∀ n ∈ g.im u, n ∈ g.ks
  | [] => by simp [missGo]
  | u :: r => by
    unfold missGo
    cases h : (g.im u).find? (fun n => decide (n ∉ g.ks)) with
    | some n =>
      have h1 := List.find?_some h
      have h2 := List.mem_of_find?_eq_some h
      simp only [decide_eq_true_eq] at h1
      constructor
      · intro e; cases e
      · intro k; exact absurd (k u (by simp) n h2) h1
    | none =>
      rw [List.find?_eq_none] at h
      show missGo g r = none ↔ _
      rw [missGo_none (l := r)]
      constructor
      · intro k v hv n hn
        rcases List.mem_cons.1 hv with rfl | hv
        · have := h n hn; simpa using this
        · exact k v hv n hn
      · intro k v hv n hn; exact k v (by simp [hv]) n hn

/-- All that a name leads to, and nothing else. -/
def IsUnder (g : Gr) (n : Str) (l : List Str) : Prop := SS l ∧ ∀ x, x ∈ l ↔ Reach g n x
def IsOver (g : Gr) (ns : List Str) (l : List Str) : Prop := SS l ∧ ∀ x, x ∈ l ↔ x ∈ g.ks ∧ (x ∈ ns ∨ ∃ y ∈ ns, Reach g x y)

/-- What is still to come, while all that a name leads to is gathered. -/
def pot (g : Gr) (u : List Str) : Nat := ((g.ks.filter fun k => decide (k ∉ u)).map fun k => (g.im k).length).sum
theorem pot_of {f : Str → Nat} {x : Str} {u : List Str} (hx : x ∉ u) : ∀ {l : List Str}, l.Nodup → (x ∉ l → f x = 0) →
    ((l.filter fun k => decide (k ∉ u)).map f).sum = ((l.filter fun k => decide (k ∉ x :: u)).map f).sum + f x
  | [], _, h0 => by simp [h0]
  | y :: r, hn, h0 => by
    obtain ⟨h1, h2⟩ := List.nodup_cons.1 hn
    by_cases e : y = x
    · subst e
      have h3 : (r.filter fun k => decide (k ∉ u)) = r.filter fun k => decide (k ∉ y :: u) := by
        apply List.filter_congr
        intro k hk
        have : k ≠ y := fun e => h1 (e ▸ hk)
        simp [this]
      have e1 : (decide (y ∉ u)) = true := by simpa using hx
      have e2 : (decide (y ∉ y :: u)) = false := by simp
      rw [List.filter_cons, List.filter_cons, if_pos e1, if_neg (by simp), h3, List.map_cons, List.sum_cons]
      omega
    · have ih := pot_of (f := f) hx (l := r) h2 (fun h => h0 (by simp [h, Ne.symm e]))
      rw [List.filter_cons, List.filter_cons]
      by_cases hy : y ∈ u
      · rw [if_neg (by simp [hy]), if_neg (by simp [hy])]; exact ih
      · rw [if_pos (by simp [hy]), if_pos (by simp [hy, e]), List.map_cons, List.map_cons, List.sum_cons, List.sum_cons]
        omega
theorem pot_put {g : Gr} (hg : g.WF) {x : Str} {u : List Str} (hx : x ∉ u) : pot g u = pot g (x :: u) + (g.im x).length :=
  pot_of (f := fun k => (g.im k).length) hx (nodup_of_ss hg.ks) (fun h => by simp [hg.no x h])
theorem pot_same {g : Gr} {u u' : List Str} (h : ∀ x, x ∈ u ↔ x ∈ u') : pot g u = pot g u' := by
  unfold pot; congr 2; apply List.filter_congr; intro k _; simp only [h]

/-- While what a name leads to is gathered: what has been come to, what is left. -/
structure UInv (g : Gr) (n : Str) (left u : List Str) : Prop where
  todo : ∀ x ∈ left, Reach g n x
  seen : ∀ x ∈ u, Reach g n x
  im : ∀ x ∈ g.im n, x ∈ u ∨ x ∈ left
  on : ∀ y ∈ u, ∀ x ∈ g.im y, x ∈ u ∨ x ∈ left
theorem UInv.start (g : Gr) (n : Str) : UInv g n (g.im n) [] :=
  ⟨fun x h => .one h, fun x h => (by cases h), fun x h => Or.inr h, fun y h => (by cases h)⟩
theorem UInv.old {g : Gr} {n x : Str} {left u : List Str} (h : UInv g n (x :: left) u) (hx : x ∈ u) : UInv g n left u := by
  refine ⟨fun y hy => h.todo y (by simp [hy]), h.seen, fun y hy => ?_, fun z hz y hy => ?_⟩
  · rcases h.im y hy with k | k
    · exact Or.inl k
    · rcases List.mem_cons.1 k with rfl | k
      · exact Or.inl hx
      · exact Or.inr k
  · rcases h.on z hz y hy with k | k
    · exact Or.inl k
    · rcases List.mem_cons.1 k with rfl | k
      · exact Or.inl hx
      · exact Or.inr k
theorem UInv.new {g : Gr} {n x : Str} {left u : List Str} (h : UInv g n (x :: left) u) : UInv g n (left ++ g.im x) (x :: u) := by
  have hr := h.todo x (by simp)
  refine ⟨fun y hy => ?_, fun y hy => ?_, fun y hy => ?_, fun z hz y hy => ?_⟩
  · rcases List.mem_append.1 hy with k | k
    · exact h.todo y (by simp [k])
    · exact .more hr k
  · rcases List.mem_cons.1 hy with rfl | k
    · exact hr
    · exact h.seen y k
  · rcases h.im y hy with k | k
    · exact Or.inl (by simp [k])
    · rcases List.mem_cons.1 k with rfl | k
      · exact Or.inl (by simp)
      · exact Or.inr (by simp [k])
  · rcases List.mem_cons.1 hz with rfl | hz
    · exact Or.inr (by simp [hy])
    · rcases h.on z hz y hy with k | k
      · exact Or.inl (by simp [k])
      · rcases List.mem_cons.1 k with rfl | k
        · exact Or.inl (by simp)
        · exact Or.inr (by simp [k])
theorem UInv.end {g : Gr} {n : Str} {u : List Str} (h : UInv g n [] u) (x : Str) : x ∈ u ↔ Reach g n x := by
  refine ⟨h.seen x, fun k => ?_⟩
  induction k with
  | one h1 => rcases h.im _ h1 with k | k; exact k; cases k
  | more h1 h2 ih => rcases h.on _ ih _ h2 with k | k; exact k; cases k

/-- While those above are gathered. -/
structure OInv (g : Gr) (ns t : List Str) : Prop where
  all : ∀ x ∈ ns, x ∈ t
  right : ∀ x ∈ t, x ∈ ns ∨ ∃ y ∈ ns, Reach g x y
theorem OInv.put {g : Gr} {ns t : List Str} (h : OInv g ns t) {x i : Str} (hi : i ∈ g.im x) (ht : i ∈ t) : OInv g ns (x :: t) := by
  refine ⟨fun y hy => by simp [h.all y hy], fun y hy => ?_⟩
  rcases List.mem_cons.1 hy with rfl | hy
  · rcases h.right i ht with k | ⟨z, k1, k2⟩
    · exact Or.inr ⟨i, k, .one hi⟩
    · refine Or.inr ⟨z, k1, ?_⟩
      exact Reach.trans (.one hi) k2
  · exact h.right y hy
theorem OInv.end {g : Gr} (hg : g.WF) {ns t : List Str} (h : OInv g ns t) (hc : ∀ x ∈ g.ks, ∀ i ∈ g.im x, i ∈ t → x ∈ t) : IsOver g ns (g.ks.filter fun k => decide (k ∈ t)) := by
  refine ⟨ss_filter hg.ks _, fun x => ?_⟩
  simp only [List.mem_filter, decide_eq_true_eq]
  refine ⟨fun ⟨h1, h2⟩ => ⟨h1, h.right x h2⟩, fun ⟨h1, h2⟩ => ⟨h1, ?_⟩⟩
  rcases h2 with h2 | ⟨y, h2, h3⟩
  · exact h.all x h2
  · have key : ∀ a b, Reach g a b → b ∈ t → a ∈ t := by
      intro a b r
      induction r with
      | @one b h1 =>
        intro hb
        exact hc a (Reach.node hg (.one h1)) b h1 hb
      | @more b c h1 h2 ih =>
        intro hb
        exact ih (hc b (Reach.node hg (.one h2)) c h2 hb)
    exact key x y h3 (h.all y h2)

/-- All of a name's imports are there. -/
def okIn (g : Gr) (placed : List Str) (x : Str) : Bool := (g.im x).all fun i => decide (i ∈ placed)
theorem okIn_iff {g : Gr} {placed : List Str} {x : Str} : okIn g placed x = true ↔ ∀ i ∈ g.im x, i ∈ placed := by simp [okIn]
theorem okIn_same {g : Gr} {p q : List Str} (h : ∀ x, x ∈ p ↔ x ∈ q) : okIn g p = okIn g q := by
  funext x; unfold okIn; congr 1; funext i; simp only [h]
/-- One behind the other; the least of those that can stand next. -/
def orderGo (g : Gr) : Nat → List Str → List Str → Option (List Str)
  | 0, left, _ => if left = [] then some [] else none
  | n + 1, left, placed => if left = [] then some [] else
    match left.findIdx? (okIn g placed) with
    | none => none
    | some i => (orderGo g n (left.eraseIdx i) (left[i]! :: placed)).map (left[i]! :: ·)
def orderS (g : Gr) : Option (List Str) := orderGo g g.ks.length g.ks []
def levelsGo (g : Gr) : Nat → List Str → List Str → Option (List (List Str))
  | 0, left, _ => if left = [] then some [] else none
  | n + 1, left, placed => if left = [] then some [] else
    (levelsGo g n (left.filter fun x => !okIn g placed x) (placed ++ left.filter (okIn g placed))).map (left.filter (okIn g placed) :: ·)
def levelsS (g : Gr) : Option (List (List Str)) := levelsGo g g.ks.length g.ks []

/-- Nothing is missing, and nothing leads to itself. -/
structure Calm (g : Gr) : Prop where
  there : ∀ u ∈ g.ks, ∀ n ∈ g.im u, n ∈ g.ks
  ring : ∀ n, ¬ Reach g n n
theorem Calm.next {g : Gr} (hc : Calm g) {left placed : List Str} (hl : ∀ x ∈ left, x ∈ g.ks) (hp : ∀ x ∈ g.ks, x ∈ left ∨ x ∈ placed) (hne : left ≠ []) : ∃ x ∈ left, okIn g placed x = true := by
  have key : ∀ k, ∀ x ∈ left, left.countP (fun y => @decide (Reach g x y) (Classical.propDecidable _)) ≤ k → ∃ x ∈ left, okIn g placed x = true := by
    intro k
    induction k with
    | zero =>
      intro x hx h0
      refine ⟨x, hx, okIn_iff.2 fun i hi => ?_⟩
      rcases hp i (hc.there x (hl x hx) i hi) with h | h
      · exfalso
        have : 0 < left.countP (fun y => @decide (Reach g x y) (Classical.propDecidable _)) := List.countP_pos_iff.2 ⟨i, h, by simpa using Reach.one hi⟩
        omega
      · exact h
    | succ k ih =>
      intro x hx hk
      by_cases hok : okIn g placed x = true
      · exact ⟨x, hx, hok⟩
      · have : ∃ i ∈ g.im x, i ∉ placed := by
          apply Classical.byContradiction
          intro hn
          exact hok (okIn_iff.2 fun i hi => Classical.byContradiction fun h => hn ⟨i, hi, h⟩)
        obtain ⟨i, hi, hip⟩ := this
        have hil : i ∈ left := (hp i (hc.there x (hl x hx) i hi)).resolve_right hip
        refine ih i hil ?_
        have hlt : left.countP (fun y => @decide (Reach g i y) (Classical.propDecidable _)) < left.countP (fun y => @decide (Reach g x y) (Classical.propDecidable _)) := by
          have h1 : left.countP (fun y => @decide (Reach g x y) (Classical.propDecidable _)) = left.countP (fun y => @decide (Reach g i y) (Classical.propDecidable _)) + left.countP (fun y => @decide (Reach g x y ∧ ¬ Reach g i y) (Classical.propDecidable _)) := by
            clear hk hx hil ih hl hp hne
            induction left with
            | nil => rfl
            | cons z l ih =>
              simp only [List.countP_cons, ih]
              by_cases hz : Reach g i z
              · have hz2 : Reach g x z := Reach.trans (.one hi) hz
                simp [hz, hz2]; omega
              · by_cases hz2 : Reach g x z
                · simp [hz, hz2]; omega
                · simp [hz, hz2]
          have h2 : 0 < left.countP (fun y => @decide (Reach g x y ∧ ¬ Reach g i y) (Classical.propDecidable _)) := List.countP_pos_iff.2 ⟨i, hil, by simpa using And.intro (Reach.one hi) (hc.ring i)⟩
          omega
        omega
  obtain ⟨x, hx⟩ := List.exists_mem_of_ne_nil left hne
  exact key _ x hx (Nat.le_refl _)
end Go.Proofs.Ytajefmmggefbeaa.Dg
