/- Plain: a module's tokens that end ahead of one of them (1): expressions. -/
import Derived.Test.YteijjaabngkbjaaGreatDoorPsV
namespace Go.Proofs.YteijjaabngkbjaaGreatDoor
set_option linter.unusedSimpArgs false
set_option linter.unusedVariables false
namespace Pz
open Lx Te

section
variable (n1 : Nat) (la w : Tok) (r0 : List Tok)
/-- What may come of the end alone. -/
def Eb {α : Type} (m : Ou α) : Prop := m = none ∨ m = some (.er n1 11) ∨ ∃ a, m = some (.ok a [endT n1])
def Es {α : Type} (m : Ou α) : Prop := m = none ∨ m = some (.er n1 11)
/-- The one place else: a call's mark, too deep, ahead of the mark that ends it. -/
def Xc {α : Type} (m : Ou α) : Prop := w.x = [41] ∧ la.x = [40] ∧ m = some (.er la.p 13)
/-- What is left, of all and of the cut. -/
def Ss (r r' : List Tok) : Prop := ∃ q, r = q ++ la :: w :: r0 ∧ r' = q ++ [la, endT n1]
def Sy (r r' : List Tok) : Prop := Ss n1 la w r0 r r' ∨ (r = w :: r0 ∧ r' = [endT n1])
def Ct {α : Type} (m m' : Ou α) : Prop := ∀ a ts, m = some (.ok a ts) → (∃ ts', Ss n1 la w r0 ts ts' ∧ m' = some (.ok a ts')) ∨ Eb n1 m' ∨ Xc la w m'
def Cs {α : Type} (m m' : Ou α) : Prop := ∀ a ts, m = some (.ok a ts) → (∃ ts', Sy n1 la w r0 ts ts' ∧ m' = some (.ok a ts')) ∨ Es n1 m' ∨ Xc la w m'
variable {n1 la w r0}
theorem Es.eb {α : Type} {m : Ou α} (h : Es n1 m) : Eb n1 m := by
  rcases h with h | h
  · exact Or.inl h
  · exact Or.inr (Or.inl h)
theorem Es.no {α : Type} : Es n1 (none : Ou α) := Or.inl rfl
theorem Es.er {α : Type} : Es n1 (some (.er n1 11) : Ou α) := Or.inr rfl
theorem Eb.ok {α : Type} {a : α} : Eb n1 (some (.ok a [endT n1])) := Or.inr (Or.inr ⟨a, rfl⟩)
protected theorem Es.bd {α β : Type} {m : Ou α} {k : α → List Tok → Ou β} (h : Es n1 m) : Es n1 (bd m k) := by
  rcases h with rfl | rfl
  · exact Es.no
  · exact Es.er
protected theorem Eb.bd {α β : Type} {m : Ou α} {k : α → List Tok → Ou β} (h : Eb n1 m) (hk : ∀ a, Eb n1 (k a [endT n1])) : Eb n1 (bd m k) := by
  rcases h with rfl | rfl | ⟨a, rfl⟩
  · exact Or.inl rfl
  · exact Or.inr (Or.inl rfl)
  · exact hk a
protected theorem Eb.bds {α β : Type} {m : Ou α} {k : α → List Tok → Ou β} (h : Eb n1 m) (hk : ∀ a, Es n1 (k a [endT n1])) : Es n1 (bd m k) := by
  rcases h with rfl | rfl | ⟨a, rfl⟩
  · exact Or.inl rfl
  · exact Or.inr rfl
  · exact hk a
theorem Cs.ct {α : Type} {m m' : Ou α} (h : Cs n1 la w r0 m m') : Ct n1 la w r0 m m' := by
  intro a ts e
  rcases h a ts e with ⟨ts', h1 | ⟨h1, rfl⟩, h2⟩ | h | h
  · exact Or.inl ⟨ts', h1, h2⟩
  · exact Or.inr (Or.inl (Or.inr (Or.inr ⟨a, h2⟩)))
  · exact Or.inr (Or.inl h.eb)
  · exact Or.inr (Or.inr h)
theorem Ct.end' {α : Type} {m m' : Ou α} (h : Eb n1 m') : Ct n1 la w r0 m m' := fun _ _ _ => Or.inr (Or.inl h)
theorem Cs.end' {α : Type} {m m' : Ou α} (h : Es n1 m') : Cs n1 la w r0 m m' := fun _ _ _ => Or.inr (Or.inl h)
theorem Cs.ok {α : Type} {a : α} {r r' : List Tok} (h : Sy n1 la w r0 r r') : Cs n1 la w r0 (some (.ok a r)) (some (.ok a r')) := by
  intro b ts e
  cases e
  exact Or.inl ⟨r', h, rfl⟩
theorem Cs.er {α : Type} {p : Nat} {c : Int} {m' : Ou α} : Cs n1 la w r0 (some (.er p c)) m' := fun _ _ e => by cases e
theorem Cs.no {α : Type} {m' : Ou α} : Cs n1 la w r0 none m' := fun _ _ e => by cases e
theorem Ct.er {α : Type} {p : Nat} {c : Int} {m' : Ou α} : Ct n1 la w r0 (some (.er p c)) m' := fun _ _ e => by cases e
theorem Ct.no {α : Type} {m' : Ou α} : Ct n1 la w r0 none m' := fun _ _ e => by cases e
theorem bd_inv {α β : Type} {m : Ou α} {k : α → List Tok → Ou β} {b : β} {ts : List Tok} (h : bd m k = some (.ok b ts)) : ∃ a t1, m = some (.ok a t1) ∧ k a t1 = some (.ok b ts) := by
  rcases m with _ | ⟨a, t1⟩ | ⟨p, c⟩
  · cases h
  · exact ⟨a, t1, rfl, h⟩
  · cases h
protected theorem Ct.bd {α β : Type} {m m' : Ou α} {k k' : α → List Tok → Ou β} (h : Ct n1 la w r0 m m') (hk : ∀ a r r', Sy n1 la w r0 r r' → Ct n1 la w r0 (k a r) (k' a r')) (he : ∀ a, Eb n1 (k' a [endT n1])) : Ct n1 la w r0 (bd m k) (bd m' k') := by
  intro b ts e
  obtain ⟨a, t1, e1, e2⟩ := bd_inv e
  rcases h a t1 e1 with ⟨t1', h1, rfl⟩ | h | ⟨x1, x2, rfl⟩
  · exact hk a t1 t1' (Or.inl h1) b ts e2
  · exact Or.inr (Or.inl (h.bd he))
  · exact Or.inr (Or.inr ⟨x1, x2, rfl⟩)
protected theorem Ct.bds {α β : Type} {m m' : Ou α} {k k' : α → List Tok → Ou β} (h : Ct n1 la w r0 m m') (hk : ∀ a r r', Sy n1 la w r0 r r' → Cs n1 la w r0 (k a r) (k' a r')) (he : ∀ a, Es n1 (k' a [endT n1])) : Cs n1 la w r0 (bd m k) (bd m' k') := by
  intro b ts e
  obtain ⟨a, t1, e1, e2⟩ := bd_inv e
  rcases h a t1 e1 with ⟨t1', h1, rfl⟩ | h | ⟨x1, x2, rfl⟩
  · exact hk a t1 t1' (Or.inl h1) b ts e2
  · exact Or.inr (Or.inl (h.bds he))
  · exact Or.inr (Or.inr ⟨x1, x2, rfl⟩)
/-- What is certain goes on: also at the end itself. -/
protected theorem Cs.bd {α β : Type} {m m' : Ou α} {k k' : α → List Tok → Ou β} (h : Cs n1 la w r0 m m') (hk : ∀ a r r', Sy n1 la w r0 r r' → Cs n1 la w r0 (k a r) (k' a r')) : Cs n1 la w r0 (bd m k) (bd m' k') := by
  intro b ts e
  obtain ⟨a, t1, e1, e2⟩ := bd_inv e
  rcases h a t1 e1 with ⟨t1', h1, rfl⟩ | h | ⟨x1, x2, rfl⟩
  · exact hk a t1 t1' h1 b ts e2
  · exact Or.inr (Or.inl h.bd)
  · exact Or.inr (Or.inr ⟨x1, x2, rfl⟩)
protected theorem Cs.bdt {α β : Type} {m m' : Ou α} {k k' : α → List Tok → Ou β} (h : Cs n1 la w r0 m m') (hk : ∀ a r r', Sy n1 la w r0 r r' → Ct n1 la w r0 (k a r) (k' a r')) : Ct n1 la w r0 (bd m k) (bd m' k') := by
  intro b ts e
  obtain ⟨a, t1, e1, e2⟩ := bd_inv e
  rcases h a t1 e1 with ⟨t1', h1, rfl⟩ | h | ⟨x1, x2, rfl⟩
  · exact hk a t1 t1' h1 b ts e2
  · exact Or.inr (Or.inl h.bd.eb)
  · exact Or.inr (Or.inr ⟨x1, x2, rfl⟩)
theorem Cs.ite {α : Type} {c : Prop} [Decidable c] {a a' b b' : Ou α} (h1 : c → Cs n1 la w r0 a a') (h2 : ¬ c → Cs n1 la w r0 b b') : Cs n1 la w r0 (if c then a else b) (if c then a' else b') := by
  by_cases h : c
  · rw [if_pos h, if_pos h]; exact h1 h
  · rw [if_neg h, if_neg h]; exact h2 h
theorem Ct.ite {α : Type} {c : Prop} [Decidable c] {a a' b b' : Ou α} (h1 : c → Ct n1 la w r0 a a') (h2 : ¬ c → Ct n1 la w r0 b b') : Ct n1 la w r0 (if c then a else b) (if c then a' else b') := by
  by_cases h : c
  · rw [if_pos h, if_pos h]; exact h1 h
  · rw [if_neg h, if_neg h]; exact h2 h
/-- The next token, where the end is not reached. -/
theorem Ss.next {r r' : List Tok} (h : Ss n1 la w r0 r r') : ∃ t q q', r = t :: q ∧ r' = t :: q' ∧ (Ss n1 la w r0 q q' ∨ (t = la ∧ q = w :: r0 ∧ q' = [endT n1])) := by
  obtain ⟨q, rfl, rfl⟩ := h
  cases q with
  | nil => exact ⟨la, _, _, rfl, rfl, Or.inr ⟨rfl, rfl, rfl⟩⟩
  | cons t q => exact ⟨t, _, _, rfl, rfl, Or.inl ⟨q, rfl, rfl⟩⟩
theorem nxt {q q' : List Tok} {t : Tok} (h : Ss n1 la w r0 q q' ∨ (t = la ∧ q = w :: r0 ∧ q' = [endT n1])) : Sy n1 la w r0 q q' := by
  rcases h with h | ⟨_, h1, h2⟩
  · exact Or.inl h
  · exact Or.inr ⟨h1, h2⟩

theorem must_end (s : Bs) (hs : s ≠ []) (fl : Bool) : must s fl [endT n1] = some (.er n1 11) := by
  simp [must, endT, hs.symm]
theorem has_end (s : Bs) (hs : s ≠ []) (fl : Bool) : has s fl [endT n1] = some (.ok false [endT n1]) := by
  simp [has, endT, hs.symm]
theorem name_end (fl : Bool) : name fl [endT n1] = some (.er n1 11) := by
  simp [name, endT]
theorem opn_end (s : Bs) (hs : s ≠ []) (fl : Bool) (d : Nat) : opn s fl d [endT n1] = some (.er n1 11) := by
  simp [opn, endT, hs.symm]
theorem must_ct (s : Bs) (hs : s ≠ []) (fl : Bool) {r r' : List Tok} (h : Sy n1 la w r0 r r') : Cs n1 la w r0 (must s fl r) (must s fl r') := by
  rcases h with h0 | ⟨rfl, rfl⟩
  · obtain ⟨t, q, q', rfl, rfl, h⟩ := h0.next
    unfold must
    exact Cs.ite (fun _ => Cs.ite (fun _ => Cs.er) (fun _ => Cs.ok (nxt h))) (fun _ => Cs.er)
  · rw [must_end s hs]; exact Cs.end' Es.er
theorem name_ct (fl : Bool) {r r' : List Tok} (h : Sy n1 la w r0 r r') : Cs n1 la w r0 (name fl r) (name fl r') := by
  rcases h with h0 | ⟨rfl, rfl⟩
  · obtain ⟨t, q, q', rfl, rfl, h⟩ := h0.next
    unfold name
    exact Cs.ite (fun _ => Cs.ite (fun _ => Cs.er) (fun _ => Cs.ok (nxt h))) (fun _ => Cs.er)
  · rw [name_end]; exact Cs.end' Es.er
theorem opn_ct (s : Bs) (hs : s ≠ []) (fl : Bool) (d : Nat) {r r' : List Tok} (h : Sy n1 la w r0 r r') : Cs n1 la w r0 (opn s fl d r) (opn s fl d r') := by
  rcases h with h0 | ⟨rfl, rfl⟩
  · obtain ⟨t, q, q', rfl, rfl, h⟩ := h0.next
    unfold opn
    exact Cs.ite (fun _ => Cs.ite (fun _ => Cs.er) (fun _ => Cs.ite (fun _ => Cs.er) (fun _ => Cs.ok (nxt h)))) (fun _ => Cs.er)
  · rw [opn_end s hs]; exact Cs.end' Es.er
theorem has_ct (s : Bs) (hs : s ≠ []) (fl : Bool) {r r' : List Tok} (h : Sy n1 la w r0 r r') : Ct n1 la w r0 (has s fl r) (has s fl r') := by
  rcases h with h0 | ⟨rfl, rfl⟩
  · obtain ⟨t, q, q', rfl, rfl, h⟩ := h0.next
    unfold has
    exact Ct.ite (fun _ => Ct.ite (fun _ => Ct.er) (fun _ => (Cs.ok (nxt h)).ct)) (fun _ => (Cs.ok (Or.inl h0)).ct)
  · rw [has_end s hs]; exact Ct.end' Eb.ok
theorem refr_end (fl : Bool) : refr fl [endT n1] = some (.er n1 11) := by
  unfold refr
  rw [name_end]
  rfl
theorem refr_ct (fl : Bool) {r r' : List Tok} (h : Sy n1 la w r0 r r') : Ct n1 la w r0 (refr fl r) (refr fl r') := by
  unfold refr
  refine (name_ct fl h).bdt fun n r r' h => (has_ct _ (by decide) false h).bd (fun b r r' h => Ct.ite (fun _ => (name_ct false h).bdt fun m r r' h => Cs.ct (Cs.ok h)) (fun _ => (Cs.ok h).ct)) (fun b => ?_)
  split
  · rw [name_end]; exact Es.er.eb
  · exact Eb.ok

/- Expressions. -/
variable (n1 la w r0) in
structure HE (E E' : Bool → Nat → List Tok → Ou Ex) : Prop where
  ct : ∀ fl d r r', Sy n1 la w r0 r r' → Ct n1 la w r0 (E fl d r) (E' fl d r')
  en : ∀ fl d, Es n1 (E' fl d [endT n1])
variable {E E' : Bool → Nat → List Tok → Ou Ex}
theorem ins_end (fl : Bool) (d : Nat) : ins E' fl d [endT n1] = some (.er n1 11) := by
  unfold ins
  rw [opn_end _ (by decide)]
  rfl
theorem ins_ct (hE : HE n1 la w r0 E E') (fl : Bool) (d : Nat) {r r' : List Tok} (h : Sy n1 la w r0 r r') : Cs n1 la w r0 (ins E fl d r) (ins E' fl d r') := by
  unfold ins
  exact (opn_ct _ (by decide) fl d h).bd fun _ r r' h => (hE.ct false (d + 1) r r' h).bds (fun e r r' h => (must_ct _ (by decide) false h).bd fun _ r r' h => Cs.ok h) (fun e => by rw [must_end _ (by decide)]; exact Es.er)
theorem rwE_end (d g : Nat) (acc : Exs) : Eb n1 (rwE E' d g acc [endT n1]) := by
  cases g with
  | zero => exact Es.no.eb
  | succ g =>
    rw [rwE, if_neg (by simp [endT])]
    exact Eb.ok
theorem rwE_ct (hE : HE n1 la w r0 E E') (d : Nat) : ∀ (g g' : Nat) (acc : Exs) {r r' : List Tok}, Sy n1 la w r0 r r' → Ct n1 la w r0 (rwE E d g acc r) (rwE E' d g' acc r') := by
  intro g
  induction g with
  | zero => intro g' acc r r' h; exact Ct.no
  | succ g ih =>
    intro g' acc r r' h
    rcases h with h0 | ⟨rfl, rfl⟩
    · obtain ⟨t, q, q', rfl, rfl, h⟩ := h0.next
      cases g' with
      | zero => exact Ct.end' Es.no.eb
      | succ g' =>
        unfold rwE
        exact Ct.ite (fun _ => (hE.ct _ d q q' (nxt h)).bd (fun e r r' h => ih g' _ h) (fun e => rwE_end d g' _)) (fun _ => (Cs.ok (Or.inl h0)).ct)
    · exact Ct.end' (rwE_end d g' acc)
theorem args_end (g d : Nat) : args E' g d [endT n1] = some (.er n1 11) := by
  show (if (endT n1).x = [40] then none else some (Rs.er (endT n1).p 11)) = _
  rw [if_neg (by simp [endT])]
  rfl
theorem argsB_ct (hE : HE n1 la w r0 E E') (g g' d : Nat) {r r' : List Tok} (h : Sy n1 la w r0 r r') :
    Cs n1 la w r0 (bd (opn [40] false d r) fun _ ts => bd (E false (d + 1) ts) fun e ts => bd (rwE E (d + 1) g (.cons e.1 e.2 .nil) ts) fun l ts => bd (must [41] false ts) fun _ ts => some (.ok l ts))
      (bd (opn [40] false d r') fun _ ts => bd (E' false (d + 1) ts) fun e ts => bd (rwE E' (d + 1) g' (.cons e.1 e.2 .nil) ts) fun l ts => bd (must [41] false ts) fun _ ts => some (.ok l ts)) := by
  refine (opn_ct _ (by decide) false d h).bd fun _ r r' h => (hE.ct false (d + 1) r r' h).bds (fun e r r' h => (rwE_ct hE (d + 1) g g' _ h).bds (fun l r r' h => (must_ct _ (by decide) false h).bd fun _ r r' h => Cs.ok h) (fun l => ?_)) (fun e => (rwE_end (d + 1) g' _).bds fun l => ?_)
  all_goals (rw [must_end _ (by decide)]; exact Es.er)
theorem args_ct (hE : HE n1 la w r0 E E') (g g' d : Nat) {r r' : List Tok} (h : Sy n1 la w r0 r r') : Cs n1 la w r0 (args E g d r) (args E' g' d r') := by
  rcases h with h0 | ⟨rfl, rfl⟩
  · have hb := argsB_ct hE g g' d (Or.inl h0)
    obtain ⟨t, q, q', rfl, rfl, h⟩ := h0.next
    rcases h with h1 | ⟨rfl, rfl, rfl⟩
    · obtain ⟨u, p, p', rfl, rfl, h2⟩ := h1.next
      unfold args
      exact Cs.ite (fun _ => Cs.ok (nxt h2)) (fun _ => hb)
    · show Cs n1 t w r0 (if t.x = [40] ∧ w.x = [41] then _ else _) (if t.x = [40] ∧ (endT n1).x = [41] then _ else _)
      rw [if_neg (c := t.x = [40] ∧ (endT n1).x = [41]) (by simp [endT])]
      by_cases hc : t.x = [40] ∧ w.x = [41]
      · rw [if_pos hc]
        intro a ts e
        right
        have eo : opn [40] false d [t, endT n1] = if d = 32 then some (.er t.p 13) else some (.ok () [endT n1]) := by simp [opn, hc.1]
        rw [eo]
        by_cases hd : d = 32
        · rw [if_pos hd]
          exact Or.inr ⟨hc.2, hc.1, rfl⟩
        · rw [if_neg hd]
          exact Or.inl ((hE.en false (d + 1)).bd)
      · rw [if_neg hc]
        exact hb
  · rw [args_end]; exact Cs.end' Es.er
theorem call_end (g d : Nat) (e : Ex) : call E' g d e [endT n1] = some (.er n1 11) := by
  unfold call
  rw [args_end]
  rfl
theorem call_ct (hE : HE n1 la w r0 E E') (g g' d : Nat) (e : Ex) {r r' : List Tok} (h : Sy n1 la w r0 r r') : Cs n1 la w r0 (call E g d e r) (call E' g' d e r') :=
  (args_ct hE g g' d h).bd fun l r r' h => Cs.ok h
theorem pr_end (g : Nat) (fl : Bool) (d : Nat) : pr E' g fl d [endT n1] = some (.er n1 11) := by
  have : pr E' g fl d [endT n1] = ins E' fl d [endT n1] := by simp [pr, endT]
  rw [this]
  exact ins_end fl d
theorem pr_ct (hE : HE n1 la w r0 E E') (g g' : Nat) (fl : Bool) (d : Nat) {r r' : List Tok} (h : Sy n1 la w r0 r r') : Ct n1 la w r0 (pr E g fl d r) (pr E' g' fl d r') := by
  rcases h with h0 | ⟨rfl, rfl⟩
  · have hr := refr_ct fl (Or.inl h0 : Sy n1 la w r0 r r')
    have hi := ins_ct hE fl d (Or.inl h0 : Sy n1 la w r0 r r')
    obtain ⟨t, q, q', rfl, rfl, h⟩ := h0.next
    have lf : ∀ {x : Ex}, Ct n1 la w r0 (if fl then some (.er t.p 3) else some (.ok x q)) (if fl then some (.er t.p 3) else some (.ok x q')) := Ct.ite (fun _ => Ct.er) (fun _ => (Cs.ok (nxt h)).ct)
    have cv : ∀ op : Int, Ct n1 la w r0 (if fl then some (.er t.p 3) else bd (ins E false d q) fun e ts => some (.ok (one op e) ts)) (if fl then some (.er t.p 3) else bd (ins E' false d q') fun e ts => some (.ok (one op e) ts)) :=
      fun op => Ct.ite (fun _ => Ct.er) (fun _ => (ins_ct hE false d (nxt h)).bdt fun e r r' h => Cs.ct (Cs.ok h))
    unfold pr
    refine Ct.ite (fun _ => lf) (fun _ => Ct.ite (fun _ => ?_) (fun _ => Ct.ite (fun _ => lf) (fun _ => Ct.ite (fun _ => lf) (fun _ => Ct.ite (fun _ => lf) (fun _ => Ct.ite (fun _ => lf) (fun _ => Ct.ite (fun _ => lf) (fun _ => Ct.ite (fun _ => cv 3) (fun _ => Ct.ite (fun _ => cv 4) (fun _ => hi.ct)))))))))
    refine hr.bd (fun e r r' h => ?_) (fun e => ?_)
    · rcases h with h0 | ⟨rfl, rfl⟩
      · have hc := call_ct hE g g' d e (Or.inl h0 : Sy n1 la w r0 r r')
        obtain ⟨u, p, p', rfl, rfl, h⟩ := h0.next
        exact Ct.ite (fun _ => hc.ct) (fun _ => (Cs.ok (Or.inl h0)).ct)
      · refine Ct.end' ?_
        simp only
        rw [if_neg (by simp [endT])]
        exact Eb.ok
    · simp only
      rw [if_neg (by simp [endT])]
      exact Eb.ok
  · rw [pr_end]; exact Ct.end' Es.er.eb
theorem un_end (g : Nat) (f : Nat) (fl : Bool) (d : Nat) : Es n1 (un E' g f fl d [endT n1]) := by
  cases f with
  | zero => exact Es.no
  | succ f =>
    rw [un, if_neg (by simp [endT]), if_neg (by simp [endT]), pr_end]
    exact Es.er
theorem un_ct (hE : HE n1 la w r0 E E') (g g' : Nat) : ∀ (f f' : Nat) (fl : Bool) (d : Nat) {r r' : List Tok}, Sy n1 la w r0 r r' → Ct n1 la w r0 (un E g f fl d r) (un E' g' f' fl d r') := by
  intro f
  induction f with
  | zero => intro f' fl d r r' h; exact Ct.no
  | succ f ih =>
    intro f' fl d r r' h
    rcases h with h0 | ⟨rfl, rfl⟩
    · have hp := pr_ct hE g g' fl d (Or.inl h0 : Sy n1 la w r0 r r')
      have ho := fun s hs => opn_ct (n1 := n1) (la := la) (w := w) (r0 := r0) s hs fl d (Or.inl h0 : Sy n1 la w r0 r r')
      obtain ⟨t, q, q', rfl, rfl, h⟩ := h0.next
      cases f' with
      | zero => exact Ct.end' Es.no.eb
      | succ f' =>
        unfold un
        refine Ct.ite (fun _ => ?_) (fun _ => Ct.ite (fun _ => ?_) (fun _ => hp))
        · exact (ho [45] (by decide)).bdt fun _ r r' h => (ih f' false (d + 1) h).bd (fun e r r' h => (Cs.ok h).ct) (fun e => Eb.ok)
        · exact (ho [33] (by decide)).bdt fun _ r r' h => (ih f' false (d + 1) h).bd (fun e r r' h => (Cs.ok h).ct) (fun e => Eb.ok)
    · exact Ct.end' (un_end g' f' fl d).eb
theorem lp_end (N' : List Tok → Ou Ex) (lv : Nat) (h0 : lv ≠ 0) (f : Nat) (e : Ex) : Eb n1 (lp N' lv f e [endT n1]) := by
  cases f with
  | zero => exact Es.no.eb
  | succ f =>
    rw [lp, if_pos (by simp [endT, opOf]; omega)]
    exact Eb.ok
theorem lp_ct {N N' : List Tok → Ou Ex} (lv : Nat) (hl : lv ≠ 0) (hN : ∀ r r', Sy n1 la w r0 r r' → Ct n1 la w r0 (N r) (N' r')) : ∀ (f f' : Nat) (e : Ex) {r r' : List Tok}, Sy n1 la w r0 r r' → Ct n1 la w r0 (lp N lv f e r) (lp N' lv f' e r') := by
  intro f
  induction f with
  | zero => intro f' e r r' h; exact Ct.no
  | succ f ih =>
    intro f' e r r' h
    rcases h with h0 | ⟨rfl, rfl⟩
    · obtain ⟨t, q, q', rfl, rfl, h⟩ := h0.next
      cases f' with
      | zero => exact Ct.end' Es.no.eb
      | succ f' =>
        unfold lp
        refine Ct.ite (fun _ => (Cs.ok (Or.inl h0)).ct) (fun _ => (hN q q' (nxt h)).bd (fun e2 r r' h => Ct.ite (fun _ => (Cs.ok h).ct) (fun _ => ih f' _ h)) (fun e2 => ?_))
        split
        · exact Eb.ok
        · exact lp_end N' lv hl f' _
    · exact Ct.end' (lp_end N' lv hl f' e)
theorem two_end (g : Nat) : ∀ (n : Nat) (fl : Bool) (d : Nat), Es n1 (two E' g n fl d [endT n1])
  | 0, fl, d => un_end g g fl d
  | n + 1, fl, d => (two_end g n fl d).bd
theorem two_ct (hE : HE n1 la w r0 E E') (g g' : Nat) : ∀ (n : Nat), n ≤ 5 → ∀ (fl : Bool) (d : Nat) {r r' : List Tok}, Sy n1 la w r0 r r' → Ct n1 la w r0 (two E g n fl d r) (two E' g' n fl d r') := by
  intro n
  induction n with
  | zero => intro _ fl d r r' h; exact un_ct hE g g' g g' fl d h
  | succ n ih =>
    intro hn fl d r r' h
    unfold two
    exact (ih (by omega) fl d h).bd (fun e r r' h => lp_ct (5 - n) (by omega) (fun r r' h => ih (by omega) false d h) g g' e h) (fun e => lp_end _ (5 - n) (by omega) g' e)
theorem expr_he : ∀ (f f' : Nat), HE n1 la w r0 (expr f) (expr f')
  | 0, 0 => ⟨fun _ _ _ _ _ => Ct.no, fun _ _ => Es.no⟩
  | 0, f' + 1 => ⟨fun _ _ _ _ _ => Ct.no, fun fl d => two_end (f' + 1) 5 fl d⟩
  | f + 1, 0 => ⟨fun _ _ _ _ _ => Ct.end' Es.no.eb, fun _ _ => Es.no⟩
  | f + 1, f' + 1 => ⟨fun fl d r r' h => two_ct (expr_he f f') (f + 1) (f' + 1) 5 (Nat.le_refl _) fl d h, fun fl d => two_end (f' + 1) 5 fl d⟩
end
end Pz
end Go.Proofs.YteijjaabngkbjaaGreatDoor
