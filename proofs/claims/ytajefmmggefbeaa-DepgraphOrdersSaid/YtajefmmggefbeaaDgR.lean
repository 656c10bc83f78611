/- Rings, in plain words: rounds of shortest ways. -/
import Derived.Test.YtajefmmggefbeaaDgS
namespace Go.Proofs.Ytajefmmggefbeaa.Dg
set_option linter.unusedSimpArgs false
set_option linter.unusedVariables false

def lastP (p : List Str) : Str := p.getLastD []
def closedP (g : Gr) (p : List Str) : Bool := decide (p.headD [] ∈ g.im (lastP p))
def stepN (p : List Str) : List Str → List Str → List (List Str) × List Str
  | [], met => ([], met)
  | n :: r, met => if n ∈ met then stepN p r met else ((p ++ [n]) :: (stepN p r (n :: met)).1, (stepN p r (n :: met)).2)
def longerS (g : Gr) : List (List Str) → List Str → List (List Str) × List Str
  | [], met => ([], met)
  | p :: r, met => ((stepN p (g.im (lastP p)) met).1 ++ (longerS g r (stepN p (g.im (lastP p)) met).2).1, (longerS g r (stepN p (g.im (lastP p)) met).2).2)
def ringGo (g : Gr) : Nat → List (List Str) → List Str → Option (List Str)
  | 0, _, _ => none
  | n + 1, round, met => match round.find? (closedP g) with
    | some p => some p
    | none => if (longerS g round met).1 = [] then some [] else ringGo g n (longerS g round met).1 (longerS g round met).2
def ringFrom (g : Gr) (s : Str) : Option (List Str) := ringGo g ((g.ks.flatMap g.im).length + 1) [[s]] []
def ringOf (g : Gr) : List Str → List Str
  | [] => []
  | s :: r => match ringFrom g s with
    | some (x :: p) => x :: p
    | _ => ringOf g r
def ringS (g : Gr) : List Str := ringOf g g.ks

theorem stepN_met (p : List Str) : ∀ (ns met : List Str) (y : Str), y ∈ (stepN p ns met).2 ↔ y ∈ met ∨ y ∈ ns
  | [], met, y => by simp [stepN]
  | n :: r, met, y => by
    unfold stepN
    by_cases h : n ∈ met
    · rw [if_pos h, stepN_met p r met y]
      constructor
      · rintro (k | k) <;> simp [k]
      · rintro (k | k)
        · exact Or.inl k
        · rcases List.mem_cons.1 k with rfl | k
          · exact Or.inl h
          · exact Or.inr k
    · rw [if_neg h]
      show y ∈ (stepN p r (n :: met)).2 ↔ _
      rw [stepN_met p r (n :: met) y, List.mem_cons, List.mem_cons]
      constructor
      · rintro ((k | k) | k) <;> simp [k]
      · rintro (k | k | k) <;> simp [k]
theorem stepN_in (p : List Str) : ∀ (ns met : List Str) (q : List Str), q ∈ (stepN p ns met).1 → ∃ y ∈ ns, y ∉ met ∧ q = p ++ [y]
  | [], met, q, h => by simp [stepN] at h
  | n :: r, met, q, h => by
    unfold stepN at h
    by_cases hn : n ∈ met
    · rw [if_pos hn] at h
      obtain ⟨y, h1, h2, h3⟩ := stepN_in p r met q h
      exact ⟨y, by simp [h1], h2, h3⟩
    · rw [if_neg hn] at h
      rcases List.mem_cons.1 h with rfl | h
      · exact ⟨n, by simp, hn, rfl⟩
      · obtain ⟨y, h1, h2, h3⟩ := stepN_in p r (n :: met) q h
        exact ⟨y, by simp [h1], fun k => h2 (by simp [k]), h3⟩
theorem stepN_out (p : List Str) : ∀ (ns met : List Str) (y : Str), y ∈ ns → y ∉ met → (p ++ [y]) ∈ (stepN p ns met).1
  | [], met, y, h, _ => by cases h
  | n :: r, met, y, h, hy => by
    unfold stepN
    by_cases hn : n ∈ met
    · rw [if_pos hn]
      rcases List.mem_cons.1 h with rfl | h
      · exact absurd hn hy
      · exact stepN_out p r met y h hy
    · rw [if_neg hn]
      by_cases e : y = n
      · subst e; simp
      · rcases List.mem_cons.1 h with rfl | h
        · exact absurd rfl e
        · exact List.mem_cons_of_mem _ (stepN_out p r (n :: met) y h (by simp [e, hy]))
theorem longer_met (g : Gr) : ∀ (round : List (List Str)) (met : List Str) (y : Str), y ∈ (longerS g round met).2 ↔ y ∈ met ∨ ∃ p ∈ round, y ∈ g.im (lastP p)
  | [], met, y => by simp [longerS]
  | p :: r, met, y => by
    show y ∈ (longerS g r (stepN p (g.im (lastP p)) met).2).2 ↔ _
    rw [longer_met g r _ y, stepN_met]
    simp only [List.mem_cons, exists_eq_or_imp]
    exact or_assoc
theorem longer_in (g : Gr) : ∀ (round : List (List Str)) (met : List Str) (q : List Str), q ∈ (longerS g round met).1 → ∃ p ∈ round, ∃ y ∈ g.im (lastP p), y ∉ met ∧ q = p ++ [y]
  | [], met, q, h => by simp [longerS] at h
  | p :: r, met, q, h => by
    rcases List.mem_append.1 (show q ∈ (stepN p (g.im (lastP p)) met).1 ++ (longerS g r (stepN p (g.im (lastP p)) met).2).1 from h) with h | h
    · obtain ⟨y, h1, h2, h3⟩ := stepN_in _ _ _ _ h
      exact ⟨p, by simp, y, h1, h2, h3⟩
    · obtain ⟨p', h1, y, h2, h3, h4⟩ := longer_in g r _ q h
      exact ⟨p', by simp [h1], y, h2, fun k => h3 ((stepN_met _ _ _ _).2 (Or.inl k)), h4⟩
theorem longer_out (g : Gr) : ∀ (round : List (List Str)) (met : List Str) (y : Str), y ∈ (longerS g round met).2 → y ∉ met → ∃ p, (p ++ [y]) ∈ (longerS g round met).1
  | [], met, y, h, hy => absurd h hy
  | p :: r, met, y, h, hy => by
    have h' : y ∈ (longerS g r (stepN p (g.im (lastP p)) met).2).2 := h
    show ∃ q, (q ++ [y]) ∈ (stepN p (g.im (lastP p)) met).1 ++ (longerS g r (stepN p (g.im (lastP p)) met).2).1
    by_cases hy2 : y ∈ (stepN p (g.im (lastP p)) met).2
    · have hyn := ((stepN_met _ _ _ _).1 hy2).resolve_left hy
      exact ⟨p, List.mem_append_left _ (stepN_out _ _ _ _ hyn hy)⟩
    · obtain ⟨q, hq⟩ := longer_out g r _ y h' hy2
      exact ⟨q, List.mem_append_right _ hq⟩

/-- A way from s, and where it ends. -/
inductive Pth (g : Gr) (s : Str) : List Str → Str → Prop
  | one : Pth g s [s] s
  | more {p : List Str} {x y : Str} : Pth g s p x → y ∈ g.im x → Pth g s (p ++ [y]) y
theorem Pth.lastP {g : Gr} {s x : Str} {p : List Str} (h : Pth g s p x) : lastP p = x := by
  cases h with
  | one => rfl
  | more _ _ => simp [Dg.lastP, List.getLastD_eq_getLast?]
theorem Pth.head {g : Gr} {s x : Str} {p : List Str} (h : Pth g s p x) : ∃ t, p = s :: t := by
  induction h with
  | one => exact ⟨[], rfl⟩
  | @more p x y _ _ ih => obtain ⟨t, rfl⟩ := ih; exact ⟨t ++ [y], rfl⟩
theorem Pth.reach {g : Gr} {s x : Str} {p : List Str} (h : Pth g s p x) : ∀ y, y ∈ g.im x → Reach g s y := by
  induction h with
  | one => exact fun y hy => .one hy
  | more _ h1 ih => exact fun y hy => .more (ih _ h1) hy
/-- Each imports the next. -/
theorem Pth.chain {g : Gr} {s x : Str} {p : List Str} (h : Pth g s p x) : ∀ (i : Nat) (a b : Str), p[i]? = some a → p[i + 1]? = some b → b ∈ g.im a := by
  induction h with
  | one => intro i a b _ h; simp at h
  | @more p x y h h1 ih =>
    intro i a b ha hb
    by_cases hi : i + 1 < p.length
    · rw [List.getElem?_append_left (by omega)] at ha
      rw [List.getElem?_append_left hi] at hb
      exact ih i a b ha hb
    · have hl : i + 1 = p.length := by
        have := (List.getElem?_eq_some_iff.1 hb).1
        simp at this; omega
      rw [List.getElem?_append_right (by omega), hl] at hb
      simp at hb
      subst hb
      have hx := h.lastP
      rw [List.getElem?_append_left (by omega)] at ha
      have : p.getLast? = some a := by rw [List.getLast?_eq_getElem?]; rw [← ha]; congr 1; omega
      rw [Dg.lastP, List.getLastD_eq_getLast?, this] at hx
      simp at hx
      subst hx
      exact h1

structure RInv (g : Gr) (s : Str) (round : List (List Str)) (met : List Str) : Prop where
  path : ∀ p ∈ round, (∃ x, Pth g s p x) ∧ p.Nodup ∧ ∀ y ∈ p, y = s ∨ y ∈ met
  self : s ∉ met
  on : ∀ m, m = s ∨ m ∈ met → (∃ p ∈ round, lastP p = m) ∨ ∀ y ∈ g.im m, y ∈ met
theorem RInv.start (g : Gr) (s : Str) : RInv g s [[s]] [] := by
  refine ⟨fun p hp => ?_, by simp, fun m hm => ?_⟩
  · simp at hp; subst hp; exact ⟨⟨s, .one⟩, by simp, fun y hy => Or.inl (by simpa using hy)⟩
  · rcases hm with rfl | hm
    · exact Or.inl ⟨[m], by simp, rfl⟩
    · cases hm
theorem RInv.open {g : Gr} {s : Str} {round : List (List Str)} {met : List Str} (h : RInv g s round met) (hc : round.find? (closedP g) = none) : ∀ p ∈ round, s ∉ g.im (lastP p) := by
  intro p hp
  have := List.find?_eq_none.1 hc p hp
  obtain ⟨⟨x, hx⟩, _⟩ := h.path p hp
  obtain ⟨t, rfl⟩ := hx.head
  simpa [closedP] using this
theorem RInv.step {g : Gr} {s : Str} {round : List (List Str)} {met : List Str} (h : RInv g s round met) (hc : round.find? (closedP g) = none) : RInv g s (longerS g round met).1 (longerS g round met).2 := by
  have ho := h.open hc
  refine ⟨fun q hq => ?_, fun hs => ?_, fun m hm => ?_⟩
  · obtain ⟨p, hp, y, hy, hyn, rfl⟩ := longer_in g round met q hq
    obtain ⟨⟨x, hx⟩, hnd, hin⟩ := h.path p hp
    rw [hx.lastP] at hy
    have hys : y ≠ s := fun e => ho p hp (by rw [hx.lastP]; exact e ▸ hy)
    refine ⟨⟨y, hx.more hy⟩, ?_, fun z hz => ?_⟩
    · rw [List.nodup_append]
      refine ⟨hnd, by simp, fun a ha b hb => ?_⟩
      simp at hb; subst hb
      intro e; subst e
      rcases hin a ha with k | k
      · exact hys k
      · exact hyn k
    · rcases List.mem_append.1 hz with hz | hz
      · exact (hin z hz).imp id fun k => (longer_met _ _ _ _).2 (Or.inl k)
      · simp at hz; subst hz
        exact Or.inr ((longer_met _ _ _ _).2 (Or.inr ⟨p, hp, by rw [hx.lastP]; exact hy⟩))
  · rcases (longer_met _ _ _ _).1 hs with k | ⟨p, hp, k⟩
    · exact h.self k
    · exact ho p hp k
  · by_cases ho' : m = s ∨ m ∈ met
    · rcases h.on m ho' with ⟨p, hp, rfl⟩ | k
      · exact Or.inr fun y hy => (longer_met _ _ _ _).2 (Or.inr ⟨p, hp, hy⟩)
      · exact Or.inr fun y hy => (longer_met _ _ _ _).2 (Or.inl (k y hy))
    · have h1 : m ≠ s := fun e => ho' (Or.inl e)
      have h2 : m ∉ met := fun e => ho' (Or.inr e)
      obtain ⟨p, hp⟩ := longer_out g round met m (hm.resolve_left h1) h2
      exact Or.inl ⟨_, hp, by simp [lastP, List.getLastD_eq_getLast?]⟩
theorem RInv.none {g : Gr} {s : Str} {round : List (List Str)} {met : List Str} (h : RInv g s round met) (hc : round.find? (closedP g) = none) (he : (longerS g round met).1 = []) : ¬ Reach g s s := by
  have hs := h.step hc
  rw [he] at hs
  have hon : ∀ m, m = s ∨ m ∈ (longerS g round met).2 → ∀ y ∈ g.im m, y ∈ (longerS g round met).2 := fun m hm => by
    rcases hs.on m hm with ⟨p, hp, _⟩ | k
    · cases hp
    · exact k
  have key : ∀ y, Reach g s y → y ∈ (longerS g round met).2 := by
    intro y hy
    induction hy with
    | one h1 => exact hon s (Or.inl rfl) _ h1
    | more _ h1 ih => exact hon _ (Or.inr ih) _ h1
  exact fun hr => hs.self (key s hr)

/-- A ring that begins with s. -/
def IsRing (g : Gr) (s : Str) (r : List Str) : Prop := ∃ x, Pth g s r x ∧ s ∈ g.im x ∧ r.Nodup
theorem IsRing.reach {g : Gr} {s : Str} {r : List Str} (h : IsRing g s r) : Reach g s s := by
  obtain ⟨x, h1, h2, _⟩ := h
  exact h1.reach s h2
theorem filter_less {U met met' : List Str} (hm : ∀ x ∈ met, x ∈ met') {y : Str} (hy : y ∈ U) (hn : y ∉ met) (hn' : y ∈ met') :
    (U.filter fun x => decide (x ∉ met')).length < (U.filter fun x => decide (x ∉ met)).length := by
  have le : ∀ l : List Str, (l.filter fun x => decide (x ∉ met')).length ≤ (l.filter fun x => decide (x ∉ met)).length := by
    intro l
    induction l with
    | nil => simp
    | cons z l ih =>
      rw [List.filter_cons, List.filter_cons]
      by_cases h1 : z ∈ met
      · rw [if_neg (by simp [hm z h1]), if_neg (by simp [h1])]; exact ih
      · by_cases h2 : z ∈ met'
        · rw [if_neg (by simp [h2]), if_pos (by simp [h1]), List.length_cons]; omega
        · rw [if_pos (by simp [h2]), if_pos (by simp [h1]), List.length_cons, List.length_cons]; omega
  induction U with
  | nil => cases hy
  | cons z l ih =>
    rw [List.filter_cons, List.filter_cons]
    rcases List.mem_cons.1 hy with rfl | hy
    · rw [if_neg (by simp [hn']), if_pos (by simp [hn])]
      have := le l
      simp only [List.length_cons]; omega
    · have := ih hy
      by_cases h1 : z ∈ met
      · rw [if_neg (by simp [hm z h1]), if_neg (by simp [h1])]; exact this
      · by_cases h2 : z ∈ met'
        · rw [if_neg (by simp [h2]), if_pos (by simp [h1]), List.length_cons]; omega
        · rw [if_pos (by simp [h2]), if_pos (by simp [h1]), List.length_cons, List.length_cons]; omega
theorem ringGo_spec {g : Gr} (hg : g.WF) {s : Str} : ∀ (n : Nat) (round : List (List Str)) (met : List Str), RInv g s round met → ((g.ks.flatMap g.im).filter fun x => decide (x ∉ met)).length < n →
    ∃ r, ringGo g n round met = some r ∧ ((r = [] ∧ ¬ Reach g s s) ∨ IsRing g s r)
  | 0, _, _, _, h => absurd h (by omega)
  | n + 1, round, met, hi, hl => by
    unfold ringGo
    cases hc : round.find? (closedP g) with
    | some p =>
      have hp := List.mem_of_find?_eq_some hc
      have hcl := List.find?_some hc
      obtain ⟨⟨x, hx⟩, hnd, _⟩ := hi.path p hp
      refine ⟨p, rfl, Or.inr ⟨x, hx, ?_, hnd⟩⟩
      obtain ⟨t, ht⟩ := hx.head
      simp only [closedP, decide_eq_true_eq, hx.lastP] at hcl
      rw [ht] at hcl
      exact hcl
    | none =>
      by_cases he : (longerS g round met).1 = []
      · exact ⟨[], by simp [he], Or.inl ⟨rfl, hi.none hc he⟩⟩
      · simp only [he, if_false]
        obtain ⟨q, hq⟩ := List.exists_mem_of_ne_nil _ he
        obtain ⟨p, hp, y, hy, hyn, rfl⟩ := longer_in g round met q hq
        refine ringGo_spec hg n _ _ (hi.step hc) ?_
        have hyU : y ∈ g.ks.flatMap g.im := by
          refine List.mem_flatMap.2 ⟨lastP p, Classical.byContradiction fun hn => ?_, hy⟩
          rw [hg.no _ hn] at hy; cases hy
        have := filter_less (U := g.ks.flatMap g.im) (met := met) (met' := (longerS g round met).2) (fun x hx => (longer_met _ _ _ _).2 (Or.inl hx)) hyU hyn ((longer_met _ _ _ _).2 (Or.inr ⟨p, hp, hy⟩))
        omega
theorem ringFrom_spec {g : Gr} (hg : g.WF) (s : Str) : ∃ r, ringFrom g s = some r ∧ ((r = [] ∧ ¬ Reach g s s) ∨ IsRing g s r) :=
  ringGo_spec hg _ _ _ (RInv.start g s) (by have := List.length_filter_le (fun x => decide (x ∉ ([] : List Str))) (g.ks.flatMap g.im); omega)
theorem ringOf_spec {g : Gr} (hg : g.WF) : ∀ (l : List Str), SS l → (ringOf g l = [] ∧ ∀ n ∈ l, ¬ Reach g n n) ∨ ∃ s ∈ l, IsRing g s (ringOf g l) ∧ ∀ n ∈ l, n < s → ¬ Reach g n n
  | [], _ => Or.inl ⟨rfl, by simp⟩
  | s :: l, hs => by
    obtain ⟨h1, h2⟩ := List.pairwise_cons.1 hs
    obtain ⟨r, hr, k⟩ := ringFrom_spec hg s
    unfold ringOf
    rw [hr]
    rcases k with ⟨rfl, k⟩ | k
    · show (ringOf g l = [] ∧ _) ∨ ∃ s' ∈ s :: l, IsRing g s' (ringOf g l) ∧ _
      rcases ringOf_spec hg l h2 with ⟨e, q⟩ | ⟨s', hs', q1, q2⟩
      · refine Or.inl ⟨e, fun n hn => ?_⟩
        rcases List.mem_cons.1 hn with rfl | hn
        · exact k
        · exact q n hn
      · refine Or.inr ⟨s', by simp [hs'], q1, fun n hn hlt => ?_⟩
        rcases List.mem_cons.1 hn with rfl | hn
        · exact k
        · exact q2 n hn hlt
    · obtain ⟨x, hx, q⟩ := id k
      obtain ⟨t, rfl⟩ := hx.head
      refine Or.inr ⟨s, by simp, k, fun n hn hlt => ?_⟩
      rcases List.mem_cons.1 hn with rfl | hn
      · exact absurd hlt Std.lt_irrefl
      · exact absurd (Std.lt_trans hlt (h1 n hn)) Std.lt_irrefl
theorem ringS_spec {g : Gr} (hg : g.WF) : (ringS g = [] ∧ ∀ n, ¬ Reach g n n) ∨ ∃ s ∈ g.ks, IsRing g s (ringS g) ∧ ∀ n ∈ g.ks, n < s → ¬ Reach g n n := by
  rcases ringOf_spec hg g.ks hg.ks with ⟨h1, h2⟩ | h
  · exact Or.inl ⟨h1, fun n hr => h2 n (Reach.node hg hr) hr⟩
  · exact Or.inr h
end Go.Proofs.Ytajefmmggefbeaa.Dg
