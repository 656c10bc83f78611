/- Plain: a module's tokens that end ahead of one of them (2): statements, declarations, the module. -/
import Derived.Test.YteijjaabngkbjaaGreatDoorPsX
namespace Go.Proofs.YteijjaabngkbjaaGreatDoor
set_option linter.unusedSimpArgs false
set_option linter.unusedVariables false
namespace Pz
open Lx Te

section
variable {n1 : Nat} {la w : Tok} {r0 : List Tok}
variable {E E' : Nat → List Tok → Ou Ex} {C C' : Nat → Ex → List Tok → Ou Ex} {B B' : Nat → List Tok → Ou Sts}
variable (n1 la w r0) in
structure HE0 (E E' : Nat → List Tok → Ou Ex) : Prop where
  ct : ∀ d r r', Sy n1 la w r0 r r' → Ct n1 la w r0 (E d r) (E' d r')
  en : ∀ d, Es n1 (E' d [endT n1])
variable (n1 la w r0) in
structure HC0 (C C' : Nat → Ex → List Tok → Ou Ex) : Prop where
  ct : ∀ d e r r', Sy n1 la w r0 r r' → Cs n1 la w r0 (C d e r) (C' d e r')
  en : ∀ d e, Es n1 (C' d e [endT n1])
variable (n1 la w r0) in
structure HB0 (B B' : Nat → List Tok → Ou Sts) : Prop where
  ct : ∀ d r r', Sy n1 la w r0 r r' → Cs n1 la w r0 (B d r) (B' d r')
  en : ∀ d, Es n1 (B' d [endT n1])
theorem lone_end (hE : HE0 n1 la w r0 E E') (d : Nat) : Es n1 (lone E' d [endT n1]) := (hE.en d).bd
theorem lone_ct (hE : HE0 n1 la w r0 E E') (d : Nat) {r r' : List Tok} (h : Sy n1 la w r0 r r') : Ct n1 la w r0 (lone E d r) (lone E' d r') :=
  (hE.ct d r r' h).bd (fun e r r' h => Cs.ct (Cs.ok h)) (fun e => Eb.ok)
theorem ended_end (kind : Int) (n : Bs) (e : Exs) : Es n1 (ended kind n e [endT n1]) := by
  unfold ended
  rw [must_end _ (by decide)]
  exact Es.er
theorem ended_ct (kind : Int) (n : Bs) (e : Exs) {r r' : List Tok} (h : Sy n1 la w r0 r r') : Cs n1 la w r0 (ended kind n e r) (ended kind n e r') :=
  (must_ct _ (by decide) false h).bd fun _ r r' h => Cs.ok h
theorem asg_end (d : Nat) (kind : Int) (n : Bs) : Es n1 (asg E' d kind n [endT n1]) := by
  unfold asg
  rw [must_end _ (by decide)]
  exact Es.er
theorem asg_ct (hE : HE0 n1 la w r0 E E') (d : Nat) (kind : Int) (n : Bs) {r r' : List Tok} (h : Sy n1 la w r0 r r') : Cs n1 la w r0 (asg E d kind n r) (asg E' d kind n r') :=
  (must_ct _ (by decide) false h).bd fun _ r r' h => (lone_ct hE d h).bds (fun e r r' h => ended_ct kind n e h) (fun e => ended_end kind n e)
theorem named_end (d : Nat) : Es n1 (named E' C' d [endT n1]) := by
  unfold named
  rw [refr_end]
  exact Es.er
theorem named_ct (hE : HE0 n1 la w r0 E E') (hC : HC0 n1 la w r0 C C') (d : Nat) {r r' : List Tok} (h : Sy n1 la w r0 r r') : Cs n1 la w r0 (named E C d r) (named E' C' d r') := by
  unfold named
  have hen : ∀ e : Ex, Es n1 (if e.1.kind = 2 ∧ (endT n1).x = [61] then asg E' d 2 e.1.name [endT n1] else bd (C' d e [endT n1]) fun c ts => ended 9 [] (.cons c.1 c.2 .nil) ts) := by
    intro e
    rw [if_neg (by simp [endT])]
    exact (hC.en d e).bd
  refine (refr_ct false h).bds (fun e r r' h => ?_) (fun e => hen e)
  rcases h with h0 | ⟨rfl, rfl⟩
  · have ha := asg_ct hE d 2 e.1.name (Or.inl h0 : Sy n1 la w r0 r r')
    have hc := (hC.ct d e r r' (Or.inl h0)).bd (k := fun c ts => ended 9 [] (.cons c.1 c.2 .nil) ts) (k' := fun c ts => ended 9 [] (.cons c.1 c.2 .nil) ts) fun c r r' h => ended_ct 9 [] _ h
    obtain ⟨u, p, p', rfl, rfl, h⟩ := h0.next
    exact Cs.ite (fun _ => ha) (fun _ => hc)
  · exact Cs.end' (hen e)
theorem branch_end (hE : HE0 n1 la w r0 E E') (d : Nat) : Es n1 (branch E' B' d [endT n1]) := (lone_end hE d).bd
theorem branch_ct (hE : HE0 n1 la w r0 E E') (hB : HB0 n1 la w r0 B B') (d : Nat) {r r' : List Tok} (h : Sy n1 la w r0 r r') : Ct n1 la w r0 (branch E B d r) (branch E' B' d r') := by
  unfold branch
  refine (lone_ct hE d h).bd (fun e r r' h => (hB.ct d r r' h).bdt fun b r r' h => (has_ct _ (by decide) false h).bd (fun y r r' h => Ct.ite (fun _ => (hB.ct d r r' h).bdt fun l r r' h => Cs.ct (Cs.ok h)) (fun _ => Cs.ct (Cs.ok h))) (fun y => ?_)) (fun e => (hB.en d).bd.eb)
  split
  · exact (hB.en d).bd.eb
  · exact Eb.ok
theorem while_end (hE : HE0 n1 la w r0 E E') (d : Nat) : Es n1 (while_ E' B' d [endT n1]) := (lone_end hE d).bd
theorem while_ct (hE : HE0 n1 la w r0 E E') (hB : HB0 n1 la w r0 B B') (d : Nat) {r r' : List Tok} (h : Sy n1 la w r0 r r') : Cs n1 la w r0 (while_ E B d r) (while_ E' B' d r') :=
  (lone_ct hE d h).bds (fun e r r' h => (hB.ct d r r' h).bd fun b r r' h => Cs.ok h) (fun e => (hB.en d).bd)
theorem returned_end (hE : HE0 n1 la w r0 E E') (d : Nat) : Es n1 (returned E' d [endT n1]) := by
  have : returned E' d [endT n1] = bd (lone E' d [endT n1]) fun e ts => ended 5 [] e ts := by simp [returned, endT]
  rw [this]
  exact (lone_end hE d).bd
theorem returned_ct (hE : HE0 n1 la w r0 E E') (d : Nat) {r r' : List Tok} (h : Sy n1 la w r0 r r') : Cs n1 la w r0 (returned E d r) (returned E' d r') := by
  rcases h with h0 | ⟨rfl, rfl⟩
  · have h1 := ended_ct 5 [] .nil (Or.inl h0 : Sy n1 la w r0 r r')
    have h2 := (lone_ct hE d (Or.inl h0 : Sy n1 la w r0 r r')).bds (k := fun e ts => ended 5 [] e ts) (k' := fun e ts => ended 5 [] e ts) (fun e r r' h => ended_ct 5 [] e h) (fun e => ended_end 5 [] e)
    obtain ⟨t, q, q', rfl, rfl, h⟩ := h0.next
    exact Cs.ite (fun _ => h1) (fun _ => h2)
  · exact Cs.end' (returned_end hE d)
theorem tried_end (hB : HB0 n1 la w r0 B B') (d : Nat) : Es n1 (tried B' d [endT n1]) := (hB.en d).bd
theorem tried_ct (hB : HB0 n1 la w r0 B B') (d : Nat) {r r' : List Tok} (h : Sy n1 la w r0 r r') : Cs n1 la w r0 (tried B d r) (tried B' d r') :=
  (hB.ct d r r' h).bd fun b r r' h => (must_ct _ (by decide) false h).bd fun _ r r' h => (name_ct false h).bd fun n r r' h => (hB.ct d r r' h).bd fun l r r' h => Cs.ok h
theorem shown_ct (hE : HE0 n1 la w r0 E E') (kind : Int) (d : Nat) {r r' : List Tok} (h : Sy n1 la w r0 r r') : Cs n1 la w r0 (bd (lone E d r) fun e ts => ended kind [] e ts) (bd (lone E' d r') fun e ts => ended kind [] e ts) :=
  (lone_ct hE d h).bds (fun e r r' h => ended_ct kind [] e h) (fun e => ended_end kind [] e)
theorem stm_end (d : Nat) : stm E' C' B' d [endT n1] = some (.er n1 11) := by simp [stm, endT]
theorem stm_ct (hE : HE0 n1 la w r0 E E') (hC : HC0 n1 la w r0 C C') (hB : HB0 n1 la w r0 B B') (d : Nat) {r r' : List Tok} (h : Sy n1 la w r0 r r') : Ct n1 la w r0 (stm E C B d r) (stm E' C' B' d r') := by
  rcases h with h0 | ⟨rfl, rfl⟩
  · have h1 := named_ct hE hC d (Or.inl h0 : Sy n1 la w r0 r r')
    obtain ⟨t, q, q', rfl, rfl, h⟩ := h0.next
    have h := nxt h
    unfold stm
    exact Ct.ite (fun _ => h1.ct) (fun _ => Ct.ite (fun _ => Cs.ct ((name_ct false h).bd fun n r r' h => asg_ct hE d 1 n h)) (fun _ => Ct.ite (fun _ => branch_ct hE hB d h) (fun _ => Ct.ite (fun _ => (while_ct hE hB d h).ct) (fun _ => Ct.ite (fun _ => (returned_ct hE d h).ct)
      (fun _ => Ct.ite (fun _ => (shown_ct hE 6 d h).ct) (fun _ => Ct.ite (fun _ => (shown_ct hE 7 d h).ct) (fun _ => Ct.ite (fun _ => (tried_ct hB d h).ct) (fun _ => Ct.er))))))))
  · rw [stm_end]; exact Ct.end' Es.er.eb
theorem sts_end {S' : List Tok → Ou St} (hS : Es n1 (S' [endT n1])) (g : Nat) (acc : Sts) : Es n1 (sts S' g acc [endT n1]) := by
  cases g with
  | zero => exact Es.no
  | succ g =>
    rw [sts, if_neg (by simp [endT])]
    exact hS.bd
theorem sts_ct {S S' : List Tok → Ou St} (hS : ∀ r r', Sy n1 la w r0 r r' → Ct n1 la w r0 (S r) (S' r')) (hS' : Es n1 (S' [endT n1])) : ∀ (g g' : Nat) (acc : Sts) {r r' : List Tok}, Sy n1 la w r0 r r' → Cs n1 la w r0 (sts S g acc r) (sts S' g' acc r') := by
  intro g
  induction g with
  | zero => intro g' acc r r' h; exact Cs.no
  | succ g ih =>
    intro g' acc r r' h
    rcases h with h0 | ⟨rfl, rfl⟩
    · have h1 := hS r r' (Or.inl h0)
      obtain ⟨t, q, q', rfl, rfl, h⟩ := h0.next
      cases g' with
      | zero => exact Cs.end' Es.no
      | succ g' =>
        unfold sts
        exact Cs.ite (fun _ => Cs.ok (Or.inl h0)) (fun _ => h1.bds (fun s r r' h => ih g' _ h) (fun s => sts_end hS' g' _))
    · exact Cs.end' (sts_end hS' g' acc)
theorem blk_hb (hE : HE0 n1 la w r0 E E') (hC : HC0 n1 la w r0 C C') (g g' : Nat) : ∀ f f', HB0 n1 la w r0 (blk E C g f) (blk E' C' g' f') := by
  have en : ∀ f' d, Es n1 (blk E' C' g' f' d [endT n1]) := by
    intro f' d
    cases f' with
    | zero => exact Es.no
    | succ f' =>
      unfold blk
      rw [opn_end _ (by decide)]
      exact Es.er
  intro f
  induction f with
  | zero => intro f'; exact ⟨fun _ _ _ _ => Cs.no, en f'⟩
  | succ f ih =>
    intro f'
    refine ⟨fun d r r' h => ?_, en f'⟩
    cases f' with
    | zero => exact Cs.end' Es.no
    | succ f' =>
      unfold blk
      exact (opn_ct _ (by decide) false d h).bd fun _ r r' h => (sts_ct (fun r r' h => stm_ct hE hC (ih f') (d + 1) h) (by rw [stm_end]; exact Es.er) g g' .nil h).bd fun l r r' h => (must_ct _ (by decide) false h).bd fun _ r r' h => Cs.ok h
/- Declarations. -/
theorem typ_end : typ [endT n1] = some (.er n1 11) := by simp [typ, endT]
theorem typ_ct {r r' : List Tok} (h : Sy n1 la w r0 r r') : Cs n1 la w r0 (typ r) (typ r') := by
  rcases h with h0 | ⟨rfl, rfl⟩
  · obtain ⟨t, q, q', rfl, rfl, h⟩ := h0.next
    have h := nxt h
    unfold typ
    exact Cs.ite (fun _ => Cs.ok h) (fun _ => Cs.ite (fun _ => Cs.ok h) (fun _ => Cs.ite (fun _ => Cs.ok h) (fun _ => Cs.er)))
  · rw [typ_end]; exact Cs.end' Es.er
theorem par1_end (fl : Bool) : Es n1 (par1 fl [endT n1]) := by
  unfold par1
  rw [name_end]
  exact Es.er
theorem par1_ct (fl : Bool) {r r' : List Tok} (h : Sy n1 la w r0 r r') : Cs n1 la w r0 (par1 fl r) (par1 fl r') :=
  (name_ct fl h).bd fun n r r' h => (must_ct _ (by decide) false h).bd fun _ r r' h => (typ_ct h).bd fun t r r' h => Cs.ok h
theorem rwP_end (g : Nat) (acc : List Pa) : Eb n1 (rwP g acc [endT n1]) := by
  cases g with
  | zero => exact Es.no.eb
  | succ g =>
    rw [rwP, if_neg (by simp [endT])]
    exact Eb.ok
theorem rwP_ct : ∀ (g g' : Nat) (acc : List Pa) {r r' : List Tok}, Sy n1 la w r0 r r' → Ct n1 la w r0 (rwP g acc r) (rwP g' acc r') := by
  intro g
  induction g with
  | zero => intro g' acc r r' h; exact Ct.no
  | succ g ih =>
    intro g' acc r r' h
    rcases h with h0 | ⟨rfl, rfl⟩
    · obtain ⟨t, q, q', rfl, rfl, h⟩ := h0.next
      cases g' with
      | zero => exact Ct.end' Es.no.eb
      | succ g' =>
        unfold rwP
        exact Ct.ite (fun _ => (par1_ct _ (nxt h)).bdt fun e r r' h => ih g' _ h) (fun _ => (Cs.ok (Or.inl h0)).ct)
    · exact Ct.end' (rwP_end g' acc)
theorem params_end (g : Nat) : Es n1 (params g [endT n1]) := by
  have : params g [endT n1] = bd (par1 false [endT n1]) fun p ts => rwP g [p] ts := by simp [params, endT]
  rw [this]
  exact (par1_end false).bd
theorem params_ct (g g' : Nat) {r r' : List Tok} (h : Sy n1 la w r0 r r') : Ct n1 la w r0 (params g r) (params g' r') := by
  rcases h with h0 | ⟨rfl, rfl⟩
  · have h1 := (par1_ct false (Or.inl h0 : Sy n1 la w r0 r r')).bdt (k := fun p ts => rwP g [p] ts) (k' := fun p ts => rwP g' [p] ts) fun p r r' h => rwP_ct g g' [p] h
    obtain ⟨t, q, q', rfl, rfl, h⟩ := h0.next
    exact Ct.ite (fun _ => (Cs.ok (Or.inl h0)).ct) (fun _ => h1)
  · exact Ct.end' (params_end g').eb
theorem result_end : Eb n1 (result [endT n1]) := by
  unfold result
  rw [has_end _ (by decide)]
  exact Eb.ok
theorem result_ct {r r' : List Tok} (h : Sy n1 la w r0 r r') : Ct n1 la w r0 (result r) (result r') := by
  refine (has_ct _ (by decide) false h).bd (fun y r r' h => Ct.ite (fun _ => (typ_ct h).ct) (fun _ => Cs.ct (Cs.ok h))) (fun y => ?_)
  split
  · rw [typ_end]; exact Es.er.eb
  · exact Eb.ok
theorem holder_ct (hE : HE0 n1 la w r0 E E') (kind : Int) (ex : Bool) {r r' : List Tok} (h : Sy n1 la w r0 r r') : Cs n1 la w r0 (holder E kind ex r) (holder E' kind ex r') := by
  unfold holder
  refine (name_ct false h).bd fun n r r' h => (must_ct _ (by decide) false h).bd fun _ r r' h => (typ_ct h).bd fun t r r' h => (must_ct _ (by decide) false h).bd fun _ r r' h => (lone_ct hE 0 h).bds (fun e r r' h => (must_ct _ (by decide) false h).bd fun _ r r' h => Cs.ok h) (fun e => ?_)
  rw [must_end _ (by decide)]
  exact Es.er
theorem fnc_ct (hB : HB0 n1 la w r0 B B') (g g' : Nat) (ex : Bool) {r r' : List Tok} (h : Sy n1 la w r0 r r') : Cs n1 la w r0 (fnc B g ex r) (fnc B' g' ex r') := by
  unfold fnc
  refine (name_ct false h).bd fun n r r' h => (must_ct _ (by decide) false h).bd fun _ r r' h => (params_ct g g' h).bds (fun ps r r' h => (must_ct _ (by decide) false h).bd fun _ r r' h => (result_ct h).bds (fun t r r' h => (hB.ct 0 r r' h).bd fun b r r' h => Cs.ok h) (fun t => (hB.en 0).bd)) (fun ps => ?_)
  rw [must_end _ (by decide)]
  exact Es.er
theorem dcl2_end (g : Nat) (ex fl : Bool) : dcl2 E' B' g ex fl [endT n1] = some (.er n1 11) := by simp [dcl2, endT]
theorem dcl2_ct (hE : HE0 n1 la w r0 E E') (hB : HB0 n1 la w r0 B B') (g g' : Nat) (ex fl : Bool) {r r' : List Tok} (h : Sy n1 la w r0 r r') : Cs n1 la w r0 (dcl2 E B g ex fl r) (dcl2 E' B' g' ex fl r') := by
  rcases h with h0 | ⟨rfl, rfl⟩
  · obtain ⟨t, q, q', rfl, rfl, h⟩ := h0.next
    have h := nxt h
    unfold dcl2
    exact Cs.ite (fun _ => Cs.ite (fun _ => Cs.er) (fun _ => holder_ct hE 1 ex h)) (fun _ => Cs.ite (fun _ => Cs.ite (fun _ => Cs.er) (fun _ => holder_ct hE 2 ex h)) (fun _ => Cs.ite (fun _ => Cs.ite (fun _ => Cs.er) (fun _ => fnc_ct hB g g' ex h)) (fun _ => Cs.er)))
  · rw [dcl2_end]; exact Cs.end' Es.er
theorem dcl_ct (hE : HE0 n1 la w r0 E E') (hB : HB0 n1 la w r0 B B') (g g' : Nat) (fl : Bool) {r r' : List Tok} (h : Ss n1 la w r0 r r') : Cs n1 la w r0 (dcl E B g fl r) (dcl E' B' g' fl r') := by
  have h2 := dcl2_ct hE hB g g' false fl (Or.inl h)
  obtain ⟨t, q, q', rfl, rfl, h3⟩ := h.next
  have h := h3
  exact Cs.ite (fun _ => Cs.ite (fun _ => Cs.er) (fun _ => dcl2_ct hE hB g g' true false (nxt h))) (fun _ => h2)
/-- What a declaration begins with, and an import. -/
def Wb (t : Tok) : Prop := t.x = [105, 109, 112, 111, 114, 116] ∨ t.x = [101, 120, 112, 111, 114, 116] ∨ t.x = [99, 111, 110, 115, 116] ∨ t.x = [118, 97, 114] ∨ t.x = [102, 110]
theorem dcl_first {g : Nat} {fl : Bool} {t : Tok} {r ts : List Tok} {d : De} (h : dcl E B g fl (t :: r) = some (.ok d ts)) : Wb t := by
  unfold dcl at h
  simp only at h
  split at h
  · exact Or.inr (Or.inl ‹_›)
  · unfold dcl2 at h
    simp only at h
    split at h
    · exact Or.inr (Or.inr (Or.inl ‹_›))
    · split at h
      · rename_i hc; exact Or.inr (Or.inr (Or.inr (Or.inl hc.2)))
      · split at h
        · exact Or.inr (Or.inr (Or.inr (Or.inr ‹_›)))
        · cases h
theorem imp1_ct (fl : Bool) {r r' : List Tok} (h : Sy n1 la w r0 r r') : Cs n1 la w r0 (imp1 fl r) (imp1 fl r') :=
  (must_ct _ (by decide) fl h).bd fun _ r r' h => (name_ct false h).bd fun n r r' h => (must_ct _ (by decide) false h).bd fun _ r r' h => Cs.ok h
variable (n1 la w r0) in
/-- As Cs, or the cut ends where something begins. -/
def Cw {α : Type} (m m' : Ou α) : Prop := ∀ a ts, m = some (.ok a ts) → (∃ ts', Sy n1 la w r0 ts ts' ∧ m' = some (.ok a ts')) ∨ Es n1 m' ∨ Xc la w m' ∨ (Wb w ∧ ∃ a', m' = some (.ok a' [endT n1]))
theorem imps_cw : ∀ (f f' : Nat) (acc : List Bs) {r r' : List Tok}, Sy n1 la w r0 r r' → Cw n1 la w r0 (imps f acc r) (imps f' acc r') := by
  intro f
  induction f with
  | zero => intro f' acc r r' h a ts e; cases e
  | succ f ih =>
    intro f' acc r r' h
    cases f' with
    | zero => exact fun _ _ _ => Or.inr (Or.inl Es.no)
    | succ f' =>
      rcases h with h0 | ⟨rfl, rfl⟩
      · have h1 := imp1_ct (acc.length == 16) (Or.inl h0 : Sy n1 la w r0 r r')
        obtain ⟨t, q, q', rfl, rfl, h⟩ := h0.next
        unfold imps
        by_cases hc : t.x = [105, 109, 112, 111, 114, 116]
        · rw [if_pos hc, if_pos hc]
          intro a ts e
          obtain ⟨n, t1, e1, e2⟩ := bd_inv e
          rcases h1 n t1 e1 with ⟨t1', h2, h3⟩ | h2 | ⟨x1, x2, h3⟩
          · rw [h3]
            exact ih f' _ h2 a ts e2
          · exact Or.inr (Or.inl h2.bd)
          · rw [h3]
            exact Or.inr (Or.inr (Or.inl ⟨x1, x2, rfl⟩))
        · rw [if_neg hc, if_neg hc]
          intro a ts e
          cases e
          exact Or.inl ⟨_, Or.inl h0, rfl⟩
      · have e' : imps (f' + 1) acc [endT n1] = some (.ok acc [endT n1]) := by rw [imps, if_neg (by simp [endT])]
        rw [e']
        intro a ts e
        rw [imps] at e
        split at e
        · exact Or.inr (Or.inr (Or.inr ⟨Or.inl ‹_›, _, rfl⟩))
        · cases e
          exact Or.inl ⟨_, Or.inr ⟨rfl, rfl⟩, rfl⟩
theorem dcls_cw (hr : r0 ≠ []) (hE : HE0 n1 la w r0 E E') (hB : HB0 n1 la w r0 B B') (g g' : Nat) : ∀ (f f' : Nat) (acc : List De) {r r' : List Tok}, Sy n1 la w r0 r r' → ∀ a ts, dcls E B g f acc r = some (.ok a ts) →
    Es n1 (dcls E' B' g' f' acc r') ∨ Xc la w (dcls E' B' g' f' acc r') ∨ (Wb w ∧ ∃ a', dcls E' B' g' f' acc r' = some (.ok a' [endT n1])) := by
  intro f
  induction f with
  | zero => intro f' acc r r' h a ts e; cases e
  | succ f ih =>
    intro f' acc r r' h a ts e
    cases f' with
    | zero => exact Or.inl Es.no
    | succ f' =>
      rcases h with h0 | ⟨rfl, rfl⟩
      · have h1 := dcl_ct hE hB g g' (acc.length == 64) h0
        obtain ⟨q, rfl, rfl⟩ := h0
        have l1 : ∃ t u p, q ++ la :: w :: r0 = t :: u :: p := by
          rcases q with _ | ⟨t, _ | ⟨u, q⟩⟩
          · exact ⟨_, _, _, rfl⟩
          · exact ⟨_, _, _, rfl⟩
          · exact ⟨_, _, _, rfl⟩
        have l2 : ∃ t u p, q ++ [la, endT n1] = t :: u :: p := by
          rcases q with _ | ⟨t, _ | ⟨u, q⟩⟩
          · exact ⟨_, _, _, rfl⟩
          · exact ⟨_, _, _, rfl⟩
          · exact ⟨_, _, _, rfl⟩
        obtain ⟨t, u, p, e1⟩ := l1
        obtain ⟨t', u', p', e2⟩ := l2
        rw [e1] at e h1
        rw [e2] at h1 ⊢
        rw [dcls] at e ⊢
        obtain ⟨d, t1, e3, e4⟩ := bd_inv e
        rcases h1 d t1 e3 with ⟨t1', h2, h3⟩ | h2 | ⟨x1, x2, h3⟩
        · rw [h3]
          exact ih f' _ h2 a ts e4
        · exact Or.inl h2.bd
        · rw [h3]
          exact Or.inr (Or.inl ⟨x1, x2, rfl⟩)
      · obtain ⟨u, p, rfl⟩ : ∃ u p, r0 = u :: p := by
          cases r0 with
          | nil => exact absurd rfl hr
          | cons u p => exact ⟨u, p, rfl⟩
        rw [dcls] at e
        obtain ⟨d, t1, e3, e4⟩ := bd_inv e
        exact Or.inr (Or.inr ⟨dcl_first e3, acc, rfl⟩)
end
theorem mdl_cut {n1 : Nat} {la w : Tok} {r0 : List Tok} (hr : r0 ≠ []) (g g' : Nat) {r r' : List Tok} (h : Sy n1 la w r0 r r') (m : Mo) (ts : List Tok) (e : mdl g r = some (.ok m ts)) :
    Es n1 (mdl g' r') ∨ Xc la w (mdl g' r') ∨ (Wb w ∧ ∃ m', mdl g' r' = some (.ok m' [endT n1])) := by
  have hE := expr_he (n1 := n1) (la := la) (w := w) (r0 := r0) g g'
  have hE0 : HE0 n1 la w r0 (E0 g) (E0 g') := ⟨fun d r r' h => hE.ct false d r r' h, fun d => hE.en false d⟩
  have hC0 : HC0 n1 la w r0 (C0 g) (C0 g') := ⟨fun d e r r' h => call_ct hE g g' d e h, fun d e => by unfold C0; rw [call_end]; exact Es.er⟩
  have hB0 : HB0 n1 la w r0 (B0 g) (B0 g') := blk_hb hE0 hC0 g g' g g'
  unfold mdl at e ⊢
  obtain ⟨_, t1, e1, e⟩ := bd_inv e
  rcases must_ct _ (by decide) false h _ _ e1 with ⟨t1', h1, q1⟩ | h2 | ⟨x1, x2, h3⟩
  rotate_left
  · exact Or.inl h2.bd
  · rw [h3]; exact Or.inr (Or.inl ⟨x1, x2, rfl⟩)
  rw [q1, bd_ok]
  obtain ⟨nm, t2, e2, e⟩ := bd_inv e
  rcases name_ct false h1 _ _ e2 with ⟨t2', h1, q1⟩ | h2 | ⟨x1, x2, h3⟩
  rotate_left
  · exact Or.inl h2.bd
  · rw [h3]; exact Or.inr (Or.inl ⟨x1, x2, rfl⟩)
  rw [q1, bd_ok]
  obtain ⟨_, t3, e3, e⟩ := bd_inv e
  rcases must_ct _ (by decide) false h1 _ _ e3 with ⟨t3', h1, q1⟩ | h2 | ⟨x1, x2, h3⟩
  rotate_left
  · exact Or.inl h2.bd
  · rw [h3]; exact Or.inr (Or.inl ⟨x1, x2, rfl⟩)
  rw [q1, bd_ok]
  obtain ⟨is, t4, e4, e⟩ := bd_inv e
  rcases imps_cw g g' [] h1 _ _ e4 with ⟨t4', h1, q1⟩ | h2 | ⟨x1, x2, h3⟩ | ⟨hw, is', h3⟩
  rotate_left
  · exact Or.inl h2.bd
  · rw [h3]; exact Or.inr (Or.inl ⟨x1, x2, rfl⟩)
  · rw [h3, bd_ok]
    cases g' with
    | zero => exact Or.inl Es.no
    | succ g' => exact Or.inr (Or.inr ⟨hw, _, rfl⟩)
  rw [q1, bd_ok]
  obtain ⟨ds, t5, e5, e⟩ := bd_inv e
  rcases dcls_cw hr hE0 hB0 g g' g g' [] h1 _ _ e5 with h2 | ⟨x1, x2, h3⟩ | ⟨hw, ds', h3⟩
  · exact Or.inl h2.bd
  · rw [h3]; exact Or.inr (Or.inl ⟨x1, x2, rfl⟩)
  · rw [h3]; exact Or.inr (Or.inr ⟨hw, _, rfl⟩)
/-- What comes of a module's tokens that end ahead of one of them. -/
theorem parT_cut (ts : List Tok) (n : Nat) (m : Mo) (p : Nat) (c : Int) (h : parT ts n = some (some m, p, c)) (hx : ∀ t ∈ ts, t.x ≠ []) (i : Nat) (w : Tok) (hi : ts[i]? = some w) (n1 : Nat) :
    parT (ts.take i) n1 = some (none, n1, 11) ∨ (Wb w ∧ 3 ≤ i ∧ ∃ m', parT (ts.take i) n1 = some (some m', 0, 0)) ∨ (w.x = [41] ∧ ∃ j la, i = j + 1 ∧ ts[j]? = some la ∧ la.x = [40] ∧ parT (ts.take i) n1 = some (none, la.p, 13)) := by
  have hil : i < ts.length := by
    rcases Nat.lt_or_ge i ts.length with h | h
    · exact h
    · rw [List.getElem?_eq_none h] at hi; cases hi
  obtain ⟨rr, hrr⟩ := parT_some (ts.take i) n1 (fun t ht => hx t (List.mem_of_mem_take ht))
  have hfull : ∃ t, mdl (ts.length + 2) (ts ++ [endT n]) = some (.ok m [t]) := by
    unfold parT whole at h
    split at h
    · cases h
    · cases h
    · rename_i a t heq
      simp only [Option.some.injEq, Prod.mk.injEq] at h
      rw [← h.1]
      exact ⟨t, heq⟩
    · cases h
    · cases h
  obtain ⟨t, hfull⟩ := hfull
  have hdrop : ts.drop i = w :: ts.drop (i + 1) := by
    rw [List.drop_eq_getElem_cons hil]
    rw [List.getElem?_eq_getElem hil] at hi
    cases hi
    rfl
  cases i with
  | zero =>
    left
    unfold parT
    have : mdl ((List.take 0 ts).length + 2) (List.take 0 ts ++ [endT n1]) = some (.er n1 11) := by
      show mdl 2 [endT n1] = _
      unfold mdl
      rw [must_end _ (by decide)]
      rfl
    rw [this]
    rfl
  | succ j =>
    obtain ⟨la, hla⟩ : ∃ la, ts[j]? = some la := ⟨ts[j]'(by omega), List.getElem?_eq_getElem (by omega)⟩
    have htake : ts.take (j + 1) = ts.take j ++ [la] := by rw [List.take_add_one, hla]; rfl
    have hS : Sy n1 la w (ts.drop (j + 2) ++ [endT n]) (ts ++ [endT n]) (ts.take (j + 1) ++ [endT n1]) := by
      refine Or.inl ⟨ts.take j, ?_, ?_⟩
      · have : ts = ts.take j ++ la :: w :: ts.drop (j + 2) := by
          have e := (List.take_append_drop (j + 1) ts).symm
          rw [htake, hdrop] at e
          rw [List.append_assoc] at e
          exact e
        conv => lhs; rw [this]
        simp
      · rw [htake]; simp
    have hsz : ∀ m', mdl ((ts.take (j + 1)).length + 2) (ts.take (j + 1) ++ [endT n1]) = some (.ok m' [endT n1]) → 3 ≤ j + 1 := by
      intro m' e
      unfold mdl at e
      obtain ⟨_, t1, e1, e⟩ := bd_inv e
      obtain ⟨_, t2, e2, e⟩ := bd_inv e
      obtain ⟨_, t3, e3, e⟩ := bd_inv e
      obtain ⟨is, t4, e4, e⟩ := bd_inv e
      obtain ⟨ds, t5, e5, e⟩ := bd_inv e
      have s1 := must_sz [109, 111, 100, 117, 108, 101] false (ts.take (j + 1) ++ [endT n1])
      rw [e1] at s1
      have s2 := name_sz false t1
      rw [e2] at s2
      have s3 := must_sz [59] false t2
      rw [e3] at s3
      have s4 := imps_sz ((ts.take (j + 1)).length + 2) [] t3
      rw [e4] at s4
      have hE := expr_sz ((ts.take (j + 1)).length + 2)
      have hE0 : ∀ d ts', Sz fE ts'.length (E0 ((ts.take (j + 1)).length + 2) d ts') := fun d ts' => hE false d ts'
      have hC0 : ∀ d e ts', Sz fE ts'.length (C0 ((ts.take (j + 1)).length + 2) d e ts') := fun d e ts' => call_sz hE _ d e ts'
      have hB0 : ∀ d ts', Sz Sts.size ts'.length (B0 ((ts.take (j + 1)).length + 2) d ts') := fun d ts' => blk_sz hE0 hC0 _ _ d ts'
      have s5 := dcls_sz hE0 hB0 ((ts.take (j + 1)).length + 2) ((ts.take (j + 1)).length + 2) [] t4
      rw [e5] at s5
      simp only [Option.some.injEq, Rs.ok.injEq] at e
      rw [e.2] at s5
      simp only [Sz, o1, fDs, List.length_append, List.length_take, List.length_cons, List.length_nil, List.map_nil, List.sum_nil] at s1 s2 s3 s4 s5
      omega
    rcases mdl_cut (by simp) (ts.length + 2) ((ts.take (j + 1)).length + 2) hS m [t] hfull with h1 | ⟨x1, x2, h1⟩ | ⟨hw, m', h1⟩
    · left
      unfold parT at hrr ⊢
      rcases h1 with h1 | h1
      · rw [h1] at hrr; cases hrr
      · rw [h1]; rfl
    · right; right
      refine ⟨x1, j, la, rfl, hla, x2, ?_⟩
      unfold parT
      rw [h1]
      rfl
    · right; left
      refine ⟨hw, hsz m' h1, m', ?_⟩
      unfold parT
      rw [h1]
      rfl
end Pz
end Go.Proofs.YteijjaabngkbjaaGreatDoor
