/- Rings, in plain words: ways of so many steps; of the shortest rings the least. -/
import Derived.Test.YtajefmmggefbeaaDgT
namespace Go.Proofs.Ytajefmmggefbeaa.Dg
set_option linter.unusedSimpArgs false
set_option linter.unusedVariables false

/-- Lists of one length, in order. -/
def lexLe : List Str → List Str → Prop
  | [], [] => True
  | a :: p, b :: q => a < b ∨ (a = b ∧ lexLe p q)
  | _, _ => False
def lexLt : List Str → List Str → Prop
  | a :: p, b :: q => a < b ∨ (a = b ∧ lexLt p q)
  | _, _ => False
theorem lexLe.refl : ∀ p : List Str, lexLe p p
  | [] => trivial
  | _ :: p => Or.inr ⟨rfl, lexLe.refl p⟩
theorem lexLt.le : ∀ {p q : List Str}, lexLt p q → lexLe p q
  | a :: p, b :: q, h => h.imp id fun ⟨e, k⟩ => ⟨e, lexLt.le k⟩
theorem lexLe.trans : ∀ {p q r : List Str}, lexLe p q → lexLe q r → lexLe p r
  | [], [], [], _, _ => trivial
  | a :: p, b :: q, c :: r, h, k => by
    rcases h with h | ⟨rfl, h⟩
    · rcases k with k | ⟨rfl, k⟩
      · exact Or.inl (Std.lt_trans h k)
      · exact Or.inl h
    · rcases k with k | ⟨rfl, k⟩
      · exact Or.inl k
      · exact Or.inr ⟨rfl, h.trans k⟩
theorem lexLe.antisymm : ∀ {p q : List Str}, lexLe p q → lexLe q p → p = q
  | [], [], _, _ => rfl
  | a :: p, b :: q, h, k => by
    rcases h with h | ⟨rfl, h⟩
    · rcases k with k | ⟨rfl, k⟩
      · exact absurd (Std.lt_trans h k) Std.lt_irrefl
      · exact absurd h Std.lt_irrefl
    · rcases k with k | ⟨_, k⟩
      · exact absurd k Std.lt_irrefl
      · rw [h.antisymm k]
theorem lexLe.snoc (y : Str) : ∀ {p q : List Str}, lexLe p q → lexLe (p ++ [y]) (q ++ [y])
  | [], [], _ => Or.inr ⟨rfl, trivial⟩
  | a :: p, b :: q, h => h.imp id fun ⟨e, k⟩ => ⟨e, lexLe.snoc y k⟩
theorem lexLt.snoc (y z : Str) : ∀ {p q : List Str}, lexLt p q → lexLt (p ++ [y]) (q ++ [z])
  | a :: p, b :: q, h => h.imp id fun ⟨e, k⟩ => ⟨e, lexLt.snoc y z k⟩
theorem lexLt.last {y z : Str} (h : y < z) : ∀ p : List Str, lexLt (p ++ [y]) (p ++ [z])
  | [] => Or.inl h
  | _ :: p => Or.inr ⟨rfl, lexLt.last h p⟩
theorem lexLe.tail {a : Str} {p q : List Str} (h : lexLe (a :: p) (a :: q)) : lexLe p q := by
  rcases h with h | ⟨_, h⟩
  · exact absurd h Std.lt_irrefl
  · exact h

/-- A way from x through t, which ends at z. -/
def Wk (g : Gr) : Str → List Str → Str → Prop
  | x, [], z => x = z
  | x, y :: t, z => y ∈ g.im x ∧ Wk g y t z
theorem Wk.snoc {g : Gr} {y : Str} : ∀ {t : List Str} {x z : Str}, Wk g x t z → y ∈ g.im z → Wk g x (t ++ [y]) y
  | [], x, z, h, k => by obtain rfl : x = z := h; exact ⟨k, rfl⟩
  | c :: t, x, z, h, k => ⟨h.1, Wk.snoc h.2 k⟩
theorem Wk.unsnoc {g : Gr} {y : Str} : ∀ {t : List Str} {x z : Str}, Wk g x (t ++ [y]) z → z = y ∧ ∃ z', Wk g x t z' ∧ y ∈ g.im z'
  | [], x, z, h => ⟨h.2.symm, x, rfl, h.1⟩
  | c :: t, x, z, h => by
    obtain ⟨e, z', h1, h2⟩ := Wk.unsnoc (t := t) h.2
    exact ⟨e, z', ⟨h.1, h1⟩, h2⟩
theorem Pth.wk {g : Gr} {s x : Str} {p : List Str} (h : Pth g s p x) : ∃ t, p = s :: t ∧ Wk g s t x := by
  induction h with
  | one => exact ⟨[], rfl, rfl⟩
  | @more p x y _ h1 ih =>
    obtain ⟨t, rfl, h2⟩ := ih
    exact ⟨t ++ [y], rfl, h2.snoc h1⟩
theorem Wk.last {g : Gr} : ∀ {t : List Str} {s z : Str}, Wk g s t z → lastP (s :: t) = z
  | [], s, z, h => h
  | c :: t, s, z, h => by
    have := Wk.last h.2
    simpa [lastP, List.getLastD_eq_getLast?, List.getLast?_cons_cons] using this
/-- Just so many steps. -/
def Stp (g : Gr) (n : Nat) (a b : Str) : Prop := ∃ t z, Wk g a t z ∧ b ∈ g.im z ∧ t.length + 1 = n
theorem Stp.pos {g : Gr} {n : Nat} {a b : Str} (h : Stp g n a b) : 1 ≤ n := by obtain ⟨_, _, _, _, h⟩ := h; omega
theorem stp_one {g : Gr} {a b : Str} : Stp g 1 a b ↔ b ∈ g.im a := by
  constructor
  · rintro ⟨t, z, h1, h2, h3⟩
    obtain rfl : t = [] := List.eq_nil_of_length_eq_zero (by omega)
    obtain rfl : a = z := h1
    exact h2
  · exact fun h => ⟨[], a, rfl, h, rfl⟩
theorem stp_front {g : Gr} {n : Nat} {a b : Str} (hn : 1 ≤ n) : Stp g (n + 1) a b ↔ ∃ c ∈ g.im a, Stp g n c b := by
  constructor
  · rintro ⟨t, z, h1, h2, h3⟩
    cases t with
    | nil => simp at h3; omega
    | cons c t => exact ⟨c, h1.1, t, z, h1.2, h2, by simpa using h3⟩
  · rintro ⟨c, hc, t, z, h1, h2, h3⟩
    exact ⟨c :: t, z, ⟨hc, h1⟩, h2, by simp [h3]⟩
theorem stp_back {g : Gr} {n : Nat} {a b : Str} (hn : 1 ≤ n) : Stp g (n + 1) a b ↔ ∃ c, Stp g n a c ∧ b ∈ g.im c := by
  constructor
  · rintro ⟨t, z, h1, h2, h3⟩
    refine ⟨z, ?_, h2⟩
    rcases List.eq_nil_or_concat t with rfl | ⟨t', y, rfl⟩
    · simp at h3; omega
    · rw [List.concat_eq_append] at h1 h3
      obtain ⟨rfl, z', k1, k2⟩ := h1.unsnoc
      exact ⟨t', z', k1, k2, by simp at h3; omega⟩
  · rintro ⟨c, ⟨t, z, h1, h2, h3⟩, hb⟩
    exact ⟨t ++ [c], c, h1.snoc h2, hb, by simp; omega⟩
theorem Wk.reach {g : Gr} : ∀ {t : List Str} {x z y : Str}, Wk g x t z → y ∈ g.im z → Reach g x y
  | [], x, z, y, h, k => by obtain rfl : x = z := h; exact .one k
  | c :: t, x, z, y, h, k => Reach.trans (.one h.1) (Wk.reach h.2 k)
theorem Stp.reach {g : Gr} {n : Nat} {a b : Str} (h : Stp g n a b) : Reach g a b := by
  obtain ⟨t, z, h1, h2, _⟩ := h
  exact h1.reach h2

/-- The least number of steps. -/
def Far (g : Gr) (a b : Str) (n : Nat) : Prop := Stp g n a b ∧ ∀ m, m < n → ¬ Stp g m a b
/-- How the document finds its way back to s: n steps are left, from x on. -/
inductive Tail (g : Gr) (s : Str) : Nat → Str → List Str → Prop
  | nil {x : Str} : s ∈ g.im x → Tail g s 1 x []
  | cons {n : Nat} {x y : Str} {t : List Str} : y ∈ g.im x → Far g y s n → (∀ z ∈ g.im x, z < y → ¬ Far g z s n) → Tail g s n y t → Tail g s (n + 1) x (y :: t)
theorem Tail.way {g : Gr} {s x : Str} {n : Nat} {t : List Str} (h : Tail g s n x t) : t.length + 1 = n ∧ ∃ z, Wk g x t z ∧ s ∈ g.im z := by
  induction h with
  | nil h => exact ⟨rfl, _, rfl, h⟩
  | cons h1 _ _ _ ih =>
    obtain ⟨e, z, h2, h3⟩ := ih
    exact ⟨by simp [e], z, ⟨h1, h2⟩, h3⟩
theorem Far.next {g : Gr} {a b c : Str} {n : Nat} (h : Far g a b (n + 1)) (hc : c ∈ g.im a) (hs : Stp g n c b) : Far g c b n := by
  refine ⟨hs, fun m hm k => h.2 (m + 1) (by omega) ((stp_front k.pos).2 ⟨c, hc, k⟩)⟩
theorem Tail.least {g : Gr} {s x : Str} {n : Nat} {t : List Str} (h : Tail g s n x t) : Far g x s n → ∀ (t' : List Str) (z : Str), Wk g x t' z → s ∈ g.im z → t'.length = t.length → lexLe t t' := by
  induction h with
  | nil h =>
    intro _ t' z _ _ e
    obtain rfl : t' = [] := List.eq_nil_of_length_eq_zero (by simpa using e)
    trivial
  | @cons n x y t h1 h2 h3 h4 ih =>
    intro hf t' z hw hz e
    cases t' with
    | nil => simp at e
    | cons c t' =>
      have hl : t'.length + 1 = n := by have := h4.way.1; simp at e; omega
      have hfc : Far g c s n := hf.next hw.1 ⟨t', z, hw.2, hz, hl⟩
      rcases Std.lt_trichotomy c y with k | k | k
      · exact absurd hfc (h3 c hw.1 k)
      · subst k
        exact Or.inr ⟨rfl, ih h2 t' z hw.2 hz (by simpa using e)⟩
      · exact Or.inl k
/-- Rounds: all shortest ways of one length, the least of each, in order. -/
structure BInv (g : Gr) (s : Str) (k : Nat) (round : List (List Str)) (met : List Str) : Prop where
  path : ∀ p ∈ round, ∃ t z, p = s :: t ∧ t.length = k ∧ Wk g s t z
  sorted : round.Pairwise lexLt
  least : ∀ t z, Wk g s t z → t.length = k → (∀ t' , Wk g s t' z → k ≤ t'.length) → ∃ t', s :: t' ∈ round ∧ Wk g s t' z ∧ lexLe t' t
  met : ∀ y, y ∈ met ↔ ∃ t, t ≠ [] ∧ t.length ≤ k ∧ Wk g s t y
  nocy : ∀ t z, Wk g s t z → s ∈ g.im z → k ≤ t.length
theorem BInv.start (g : Gr) (s : Str) : BInv g s 0 [[s]] [] := by
  refine ⟨fun p hp => ⟨[], s, by simpa using hp, rfl, rfl⟩, by simp, fun t z h e _ => ?_, fun y => ?_, fun t z _ _ => Nat.zero_le _⟩
  · obtain rfl : t = [] := List.eq_nil_of_length_eq_zero e
    exact ⟨[], by simp, h, trivial⟩
  · simp only [List.not_mem_nil, false_iff]
    rintro ⟨t, h1, h2, _⟩
    exact h1 (List.eq_nil_of_length_eq_zero (by omega))
theorem stepN_sorted (p : List Str) : ∀ (ns met : List Str), SS ns → (stepN p ns met).1.Pairwise lexLt
  | [], met, _ => by simp [stepN]
  | n :: r, met, h => by
    obtain ⟨h1, h2⟩ := List.pairwise_cons.1 h
    unfold stepN
    by_cases hn : n ∈ met
    · rw [if_pos hn]; exact stepN_sorted p r met h2
    · rw [if_neg hn]
      refine List.pairwise_cons.2 ⟨fun q hq => ?_, stepN_sorted p r (n :: met) h2⟩
      obtain ⟨y, k1, _, rfl⟩ := stepN_in p r (n :: met) q hq
      exact lexLt.last (h1 y k1) p
theorem longer_sorted {g : Gr} (hg : g.WF) : ∀ (round : List (List Str)) (met : List Str), round.Pairwise lexLt → (longerS g round met).1.Pairwise lexLt
  | [], met, _ => by simp [longerS]
  | p :: r, met, h => by
    obtain ⟨h1, h2⟩ := List.pairwise_cons.1 h
    show ((stepN p (g.im (lastP p)) met).1 ++ (longerS g r (stepN p (g.im (lastP p)) met).2).1).Pairwise lexLt
    refine List.pairwise_append.2 ⟨stepN_sorted p _ _ (hg.im _), longer_sorted hg r _ h2, fun a ha b hb => ?_⟩
    obtain ⟨y, _, _, rfl⟩ := stepN_in _ _ _ _ ha
    obtain ⟨q, hq, z, _, _, rfl⟩ := longer_in _ _ _ _ hb
    exact lexLt.snoc y z (h1 q hq)
theorem longer_first (g : Gr) {y : Str} : ∀ (round : List (List Str)) (met : List Str) (p : List Str), round.Pairwise lexLt → p ∈ round → y ∈ g.im (lastP p) → y ∉ met → ∃ p0 ∈ round, (p0 ++ [y]) ∈ (longerS g round met).1 ∧ (p0 = p ∨ lexLt p0 p)
  | [], _, p, _, h, _, _ => by cases h
  | q :: r, met, p, hs, hp, hy, hm => by
    obtain ⟨h1, h2⟩ := List.pairwise_cons.1 hs
    show ∃ p0 ∈ q :: r, (p0 ++ [y]) ∈ (stepN q (g.im (lastP q)) met).1 ++ (longerS g r (stepN q (g.im (lastP q)) met).2).1 ∧ _
    by_cases hq : y ∈ g.im (lastP q)
    · refine ⟨q, by simp, List.mem_append_left _ (stepN_out _ _ _ _ hq hm), ?_⟩
      rcases List.mem_cons.1 hp with rfl | hp
      · exact Or.inl rfl
      · exact Or.inr (h1 p hp)
    · rcases List.mem_cons.1 hp with rfl | hp
      · exact absurd hy hq
      · obtain ⟨p0, k1, k2, k3⟩ := longer_first g r (stepN q (g.im (lastP q)) met).2 p h2 hp hy (fun h => ((stepN_met _ _ _ _).1 h).elim hm hq)
        exact ⟨p0, by simp [k1], List.mem_append_right _ k2, k3⟩
theorem BInv.new {g : Gr} {s : Str} {k : Nat} {round : List (List Str)} {met : List Str} (h : BInv g s k round met) {t : List Str} {z : Str} (hw : Wk g s t z) (hl : t.length = k) (hz : s ∈ g.im z) : ∃ t', s :: t' ∈ round ∧ Wk g s t' z ∧ lexLe t' t :=
  h.least t z hw hl (fun t' hw' => h.nocy t' z hw' hz)
theorem closed_iff {g : Gr} {s z : Str} {t : List Str} (hw : Wk g s t z) : closedP g (s :: t) = true ↔ s ∈ g.im z := by
  unfold closedP
  rw [hw.last]
  simp
theorem BInv.step {g : Gr} (hg : g.WF) {s : Str} {k : Nat} {round : List (List Str)} {met : List Str} (h : BInv g s k round met) (hc : round.find? (closedP g) = none) : BInv g s (k + 1) (longerS g round met).1 (longerS g round met).2 := by
  refine ⟨fun q hq => ?_, longer_sorted hg _ _ h.sorted, fun t z hw hl hm => ?_, fun y => ?_, fun t z hw hz => ?_⟩
  · obtain ⟨p, hp, y, hy, _, rfl⟩ := longer_in g round met q hq
    obtain ⟨t, z, rfl, hl, hw⟩ := h.path p hp
    rw [hw.last] at hy
    exact ⟨t ++ [y], y, rfl, by simp [hl], hw.snoc hy⟩
  · rcases List.eq_nil_or_concat t with rfl | ⟨t1, y, rfl⟩
    · simp at hl
    rw [List.concat_eq_append] at hw hl ⊢
    obtain ⟨rfl, z1, hw1, hy⟩ := hw.unsnoc
    have hl1 : t1.length = k := by simpa using hl
    obtain ⟨t1', k1, k2, k3⟩ := h.least t1 z1 hw1 hl1 (fun t' hw' => by
      have := hm (t' ++ [z]) (hw'.snoc hy)
      simp at this; omega)
    obtain ⟨p0, q1, q2, q3⟩ := longer_first g (y := z) round met (s :: t1') h.sorted k1 (by rw [k2.last]; exact hy) (fun hmet => by
      obtain ⟨t2, _, r1, r2⟩ := (h.met z).1 hmet
      have := hm t2 r2
      omega)
    obtain ⟨t0, z0, rfl, r1, r2⟩ := h.path p0 q1
    refine ⟨t0 ++ [z], q2, ?_, ?_⟩
    · obtain ⟨p', r3, y', r4, _, r5⟩ := longer_in g round met _ q2
      have e : s :: t0 = p' ∧ z = y' := by
        have := List.append_inj' r5 rfl
        exact ⟨this.1, by simpa using this.2⟩
      obtain ⟨e1, e2⟩ := e
      subst e1 e2
      rw [r2.last] at r4
      exact r2.snoc r4
    · have : lexLe t0 t1' := by
        rcases q3 with e | e
        · cases e; exact lexLe.refl _
        · exact e.le.tail
      exact (this.trans k3).snoc z
  · rw [longer_met]
    constructor
    · rintro (hy | ⟨p, hp, hy⟩)
      · obtain ⟨t, h1, h2, h3⟩ := (h.met y).1 hy
        exact ⟨t, h1, by omega, h3⟩
      · obtain ⟨t, z, rfl, hl, hw⟩ := h.path p hp
        rw [hw.last] at hy
        exact ⟨t ++ [y], by simp, by simp [hl], hw.snoc hy⟩
    · rintro ⟨t, h1, h2, h3⟩
      by_cases hlt : t.length ≤ k
      · exact Or.inl ((h.met y).2 ⟨t, h1, hlt, h3⟩)
      · rcases List.eq_nil_or_concat t with rfl | ⟨t1, y', rfl⟩
        · exact absurd rfl h1
        rw [List.concat_eq_append] at h3 h2 hlt
        obtain ⟨rfl, z1, hw1, hy⟩ := h3.unsnoc
        simp at h2 hlt
        by_cases hmin : ∀ t', Wk g s t' z1 → k ≤ t'.length
        · obtain ⟨t1', k1, k2, _⟩ := h.least t1 z1 hw1 (by omega) hmin
          exact Or.inr ⟨s :: t1', k1, by rw [k2.last]; exact hy⟩
        · refine Or.inl ((h.met y).2 ?_)
          apply Classical.byContradiction
          intro hn
          apply hmin
          intro t' hw'
          apply Classical.byContradiction
          intro hk
          exact hn ⟨t' ++ [y], by simp, by simp; omega, hw'.snoc hy⟩
  · have h1 := h.nocy t z hw hz
    apply Classical.byContradiction
    intro hlt
    obtain ⟨t', k1, k2, _⟩ := h.new hw (by omega) hz
    have := List.find?_eq_none.1 hc _ k1
    exact this ((closed_iff k2).2 hz)
theorem find_before {α : Type} {R : α → α → Prop} {f : α → Bool} : ∀ {l : List α} {p q : α}, l.Pairwise R → l.find? f = some p → q ∈ l → f q = true → p = q ∨ R p q
  | x :: l, p, q, hs, hf, hq, hfq => by
    obtain ⟨h1, h2⟩ := List.pairwise_cons.1 hs
    rw [List.find?_cons] at hf
    cases hx : f x
    · rw [hx] at hf
      rcases List.mem_cons.1 hq with rfl | hq
      · rw [hfq] at hx; cases hx
      · exact find_before h2 hf hq hfq
    · rw [hx] at hf
      obtain rfl := Option.some.inj hf
      rcases List.mem_cons.1 hq with rfl | hq
      · exact Or.inl rfl
      · exact Or.inr (h1 q hq)
theorem nodup_le : ∀ {a b : List Str}, a.Nodup → (∀ x ∈ a, x ∈ b) → a.length ≤ b.length
  | [], b, _, _ => Nat.zero_le _
  | x :: a, b, hn, h => by
    obtain ⟨h1, h2⟩ := List.nodup_cons.1 hn
    obtain ⟨i, hi⟩ := List.getElem?_of_mem (h x (by simp))
    have hp := eraseIdx_perm hi
    have := nodup_le (a := a) (b := b.eraseIdx i) h2 (fun y hy => by
      rcases mem_eraseIdx_or hi (h y (by simp [hy])) with e | e
      · exact absurd (e ▸ hy) h1
      · exact e)
    have hl := hp.length_eq
    simp only [List.length_cons] at hl ⊢
    omega
/-- What the rounds find is the least of the shortest. -/
theorem ringGo_least {g : Gr} (hg : g.WF) {s : Str} : ∀ (n k : Nat) (round : List (List Str)) (met : List Str), BInv g s k round met → ∀ (x : Str) (r : List Str), ringGo g n round met = some (x :: r) →
    x = s ∧ (∃ z, Wk g s r z ∧ s ∈ g.im z) ∧ ∀ t' z', Wk g s t' z' → s ∈ g.im z' → r.length ≤ t'.length ∧ (t'.length = r.length → lexLe r t')
  | 0, _, _, _, _, x, r, h => by cases h
  | n + 1, k, round, met, hi, x, r, h => by
    unfold ringGo at h
    cases hc : round.find? (closedP g) with
    | some p =>
      rw [hc] at h
      obtain rfl := Option.some.inj h
      obtain ⟨t, z, e, hl, hw⟩ := hi.path _ (List.mem_of_find?_eq_some hc)
      simp only [List.cons.injEq] at e
      obtain ⟨rfl, rfl⟩ := e
      refine ⟨rfl, ⟨z, hw, (closed_iff hw).1 (List.find?_some hc)⟩, fun t' z' hw' hz' => ⟨by rw [hl]; exact hi.nocy t' z' hw' hz', fun e => ?_⟩⟩
      obtain ⟨t2, k1, k2, k3⟩ := hi.new hw' (by omega) hz'
      rcases find_before hi.sorted hc k1 ((closed_iff k2).2 hz') with e | e
      · cases e; exact k3
      · exact e.le.tail.trans k3
    | none =>
      rw [hc] at h
      simp only at h
      by_cases he : (longerS g round met).1 = []
      · rw [if_pos he] at h; cases h
      · rw [if_neg he] at h
        exact ringGo_least hg n (k + 1) _ _ (hi.step hg hc) x r h
theorem ring_skip {g : Gr} (hg : g.WF) {s : Str} {r : List Str} (h : ∀ m, m ≤ g.ks.length → ¬ Stp g m s s) : ringOf g (s :: r) = ringOf g r := by
  obtain ⟨q, hq, k⟩ := ringFrom_spec hg s
  rcases k with ⟨rfl, _⟩ | ⟨x, h1, h2, h3⟩
  · show (match ringFrom g s with | some (x :: p) => x :: p | _ => ringOf g r) = _
    rw [hq]
  · exfalso
    obtain ⟨t, rfl, hw⟩ := h1.wk
    refine h (t.length + 1) ?_ ⟨t, x, hw, h2, rfl⟩
    have hin : ∀ y ∈ s :: t, y ∈ g.ks := by
      have key : ∀ (t : List Str) (a : Str), Wk g a t x → ∀ y ∈ a :: t, y ∈ g.ks := by
        intro t
        induction t with
        | nil => intro a ha y hy; obtain rfl : a = x := ha; simp at hy; subst hy; exact Reach.node hg (.one h2)
        | cons c t ih =>
          intro a ha y hy
          rcases List.mem_cons.1 hy with rfl | hy
          · exact Reach.node hg (.one ha.1)
          · exact ih c ha.2 y hy
      exact key t s hw
    have : (s :: t).length ≤ g.ks.length := nodup_le h3 hin
    simpa using this
theorem ring_take {g : Gr} (hg : g.WF) {s : Str} {r t : List Str} {n : Nat} (hf : Far g s s n) (ht : Tail g s n s t) : ringOf g (s :: r) = s :: t := by
  obtain ⟨q, hq, k⟩ := ringFrom_spec hg s
  rcases k with ⟨rfl, k⟩ | k
  · exact absurd hf.1.reach k
  · obtain ⟨x, h1, _⟩ := k
    obtain ⟨t0, rfl, _⟩ := h1.wk
    have e : t0 = t := by
      obtain ⟨_, ⟨z, k1, k2⟩, k3⟩ := ringGo_least hg _ 0 _ _ (BInv.start g s) s t0 hq
      obtain ⟨e1, z2, q1, q2⟩ := ht.way
      obtain ⟨r1, r2⟩ := k3 t z2 q1 q2
      have r3 : t.length ≤ t0.length := by
        apply Classical.byContradiction
        intro hlt
        exact hf.2 (t0.length + 1) (by omega) ⟨t0, z, k1, k2, rfl⟩
      have el : t.length = t0.length := by omega
      exact (r2 el).antisymm (ht.least hf t0 z k1 k2 el.symm)
    subst e
    unfold ringOf
    rw [hq]
end Go.Proofs.Ytajefmmggefbeaa.Dg
