/- Plain: the parser hangs on the tokens alone, not on their places. -/
import Derived.Test.YtpkaekokkhecmaaGreatDoorPsF
import Derived.Test.YtpkaekokkhecmaaGreatDoorLxAll
namespace Go.Proofs.YtpkaekokkhecmaaGreatDoor
set_option linter.unusedSimpArgs false
set_option linter.unusedVariables false
namespace Pz
open Lx Te

/-- The same tokens, wherever they stand. -/
abbrev Al (a b : List Tok) : Prop := a.map Tok.core = b.map Tok.core
def Rl {α : Type} (m m' : Ou α) : Prop :=
  match m, m' with
  | none, none => True
  | some (.er _ c), some (.er _ c') => c = c'
  | some (.ok a ts), some (.ok a' ts') => a = a' ∧ Al ts ts'
  | _, _ => False
theorem Rl.bd {α β : Type} {m m' : Ou α} {k k' : α → List Tok → Ou β} (h : Rl m m') (hk : ∀ a ts ts', Al ts ts' → Rl (k a ts) (k' a ts')) : Rl (bd m k) (bd m' k') := by
  match m, m', h with
  | none, none, _ => exact trivial
  | some (.er p c), some (.er p' c'), h => exact h
  | some (.ok a ts), some (.ok a' ts'), ⟨e, h⟩ => subst e; exact hk a ts ts' h
theorem Rl.ite {α : Type} {c : Prop} [Decidable c] {a a' b b' : Ou α} (h1 : Rl a a') (h2 : Rl b b') : Rl (if c then a else b) (if c then a' else b') := by
  split
  · exact h1
  · exact h2
theorem Rl.ok {α : Type} (a : α) {ts ts' : List Tok} (h : Al ts ts') : Rl (some (.ok a ts)) (some (.ok a ts')) := ⟨rfl, h⟩
theorem Rl.er {α : Type} (p p' : Nat) (c : Int) : Rl (some (.er p c) : Ou α) (some (.er p' c)) := rfl
/-- Both are empty, or both have a first one, and these are alike. -/
theorem Al.two {a b : List Tok} (h : Al a b) : (a = [] ∧ b = []) ∨ ∃ t t' r r', a = t :: r ∧ b = t' :: r' ∧ t.k = t'.k ∧ t.x = t'.x ∧ t.ty = t'.ty ∧ t.b = t'.b ∧ Al r r' := by
  match a, b, h with
  | [], [], _ => exact Or.inl ⟨rfl, rfl⟩
  | [], _ :: _, h => simp [Al] at h
  | _ :: _, [], h => simp [Al] at h
  | t :: r, t' :: r', h =>
    simp only [Al, List.map_cons, List.cons.injEq, Tok.core, Prod.mk.injEq] at h
    exact Or.inr ⟨t, t', r, r', rfl, rfl, h.1.1, h.1.2.1, h.1.2.2.1, h.1.2.2.2, h.2⟩
theorem Al.cons {t t' : Tok} {r r' : List Tok} (h1 : t.k = t'.k) (h2 : t.x = t'.x) (h3 : t.ty = t'.ty) (h4 : t.b = t'.b) (h : Al r r') : Al (t :: r) (t' :: r') := by
  simp only [Al, List.map_cons, List.cons.injEq, Tok.core, Prod.mk.injEq]
  exact ⟨⟨h1, h2, h3, h4⟩, h⟩

theorem must_al (s : Bs) (fl : Bool) {a b : List Tok} (h : Al a b) : Rl (must s fl a) (must s fl b) := by
  rcases h.two with ⟨rfl, rfl⟩ | ⟨t, t', r, r', rfl, rfl, h1, h2, h3, h4, hr⟩
  · exact trivial
  · simp only [must, h2]
    repeat' split
    all_goals first | exact rfl | exact ⟨rfl, hr⟩
theorem has_al (s : Bs) (fl : Bool) {a b : List Tok} (h : Al a b) : Rl (has s fl a) (has s fl b) := by
  rcases h.two with ⟨rfl, rfl⟩ | ⟨t, t', r, r', rfl, rfl, h1, h2, h3, h4, hr⟩
  · exact trivial
  · simp only [has, h2]
    repeat' split
    all_goals first | exact rfl | exact ⟨rfl, hr⟩ | exact ⟨rfl, h⟩
theorem name_al (fl : Bool) {a b : List Tok} (h : Al a b) : Rl (name fl a) (name fl b) := by
  rcases h.two with ⟨rfl, rfl⟩ | ⟨t, t', r, r', rfl, rfl, h1, h2, h3, h4, hr⟩
  · exact trivial
  · simp only [name, h1, h2]
    repeat' split
    all_goals first | exact rfl | exact ⟨rfl, hr⟩
theorem opn_al (s : Bs) (fl : Bool) (d : Nat) {a b : List Tok} (h : Al a b) : Rl (opn s fl d a) (opn s fl d b) := by
  rcases h.two with ⟨rfl, rfl⟩ | ⟨t, t', r, r', rfl, rfl, h1, h2, h3, h4, hr⟩
  · exact trivial
  · simp only [opn, h2]
    repeat' split
    all_goals first | exact rfl | exact ⟨rfl, hr⟩
theorem refr_al (fl : Bool) {a b : List Tok} (h : Al a b) : Rl (refr fl a) (refr fl b) := by
  refine (name_al fl h).bd fun n ts ts' h => (has_al [46] false h).bd fun y ts ts' h => ?_
  split
  · exact (name_al false h).bd fun m ts ts' h => ⟨rfl, h⟩
  · exact ⟨rfl, h⟩
def AE (E : Bool → Nat → List Tok → Ou Ex) : Prop := ∀ fl d a b, Al a b → Rl (E fl d a) (E fl d b)
section
variable {E : Bool → Nat → List Tok → Ou Ex} (hE : AE E)
include hE
theorem ins_al (fl : Bool) (d : Nat) {a b : List Tok} (h : Al a b) : Rl (ins E fl d a) (ins E fl d b) :=
  (opn_al [40] fl d h).bd fun _ ts ts' h => (hE false (d + 1) ts ts' h).bd fun e ts ts' h => (must_al [41] false h).bd fun _ ts ts' h => ⟨rfl, h⟩
theorem rwE_al (d : Nat) : ∀ (g : Nat) (acc : Exs) (a b : List Tok), Al a b → Rl (rwE E d g acc a) (rwE E d g acc b) := by
  intro g
  induction g with
  | zero => intro acc a b h; simp only [rwE]; exact trivial
  | succ g ih =>
    intro acc a b h
    rcases h.two with ⟨rfl, rfl⟩ | ⟨t, t', r, r', rfl, rfl, h1, h2, h3, h4, hr⟩
    · simp only [rwE]; exact trivial
    · simp only [rwE, h2]
      split
      · exact (hE _ d r r' hr).bd fun e ts ts' h => ih _ ts ts' h
      · exact ⟨rfl, h⟩
theorem args_al (g d : Nat) {a b : List Tok} (h : Al a b) : Rl (args E g d a) (args E g d b) := by
  rcases h.two with ⟨rfl, rfl⟩ | ⟨t, t', r, r', rfl, rfl, h1, h2, h3, h4, hr⟩
  · exact trivial
  · rcases hr.two with ⟨rfl, rfl⟩ | ⟨u, u', r2, r2', rfl, rfl, g1, g2, g3, g4, hr2⟩
    · simp only [args, h2]
      split
      · exact trivial
      · exact rfl
    · simp only [args, h2, g2]
      split
      · exact ⟨rfl, hr2⟩
      · exact (opn_al [40] false d h).bd fun _ ts ts' h => (hE false (d + 1) ts ts' h).bd fun e ts ts' h => (rwE_al hE (d + 1) g _ ts ts' h).bd fun l ts ts' h => (must_al [41] false h).bd fun _ ts ts' h => ⟨rfl, h⟩
theorem call_al (g d : Nat) (e : Ex) {a b : List Tok} (h : Al a b) : Rl (call E g d e a) (call E g d e b) :=
  (args_al hE g d h).bd fun l ts ts' h => ⟨rfl, h⟩
theorem pr_al (g : Nat) (fl : Bool) (d : Nat) {a b : List Tok} (h : Al a b) : Rl (pr E g fl d a) (pr E g fl d b) := by
  rcases h.two with ⟨rfl, rfl⟩ | ⟨t, t', r, r', rfl, rfl, h1, h2, h3, h4, hr⟩
  · exact trivial
  · simp only [pr, h1, h2, h3, h4]
    repeat' refine Rl.ite ?_ ?_
    all_goals first
      | exact rfl
      | exact ⟨rfl, hr⟩
      | exact (ins_al hE false d hr).bd fun e ts ts' h => ⟨rfl, h⟩
      | exact ins_al hE fl d h
      | (refine (refr_al fl h).bd fun e ts ts' h => ?_
         rcases h.two with ⟨rfl, rfl⟩ | ⟨u, u', r2, r2', rfl, rfl, g1, g2, g3, g4, hr2⟩
         · exact trivial
         · simp only [g2]
           split
           · exact call_al hE g d e h
           · exact ⟨rfl, h⟩)
theorem un_al (g : Nat) : ∀ (f : Nat) (fl : Bool) (d : Nat) (a b : List Tok), Al a b → Rl (un E g f fl d a) (un E g f fl d b) := by
  intro f
  induction f with
  | zero => intro fl d a b h; simp only [un]; exact trivial
  | succ f ih =>
    intro fl d a b h
    rcases h.two with ⟨rfl, rfl⟩ | ⟨t, t', r, r', rfl, rfl, h1, h2, h3, h4, hr⟩
    · simp only [un]; exact trivial
    · simp only [un, h2]
      split
      · exact (opn_al [45] fl d h).bd fun _ ts ts' h => (ih false (d + 1) ts ts' h).bd fun e ts ts' h => ⟨rfl, h⟩
      · split
        · exact (opn_al [33] fl d h).bd fun _ ts ts' h => (ih false (d + 1) ts ts' h).bd fun e ts ts' h => ⟨rfl, h⟩
        · exact pr_al hE g fl d h
end
theorem lp_al (N : List Tok → Ou Ex) (lv : Nat) (hN : ∀ a b, Al a b → Rl (N a) (N b)) : ∀ (f : Nat) (e : Ex) (a b : List Tok), Al a b → Rl (lp N lv f e a) (lp N lv f e b) := by
  intro f
  induction f with
  | zero => intro e a b h; simp only [lp]; exact trivial
  | succ f ih =>
    intro e a b h
    rcases h.two with ⟨rfl, rfl⟩ | ⟨t, t', r, r', rfl, rfl, h1, h2, h3, h4, hr⟩
    · simp only [lp]; exact trivial
    · simp only [lp, h2]
      split
      · exact ⟨rfl, h⟩
      · refine (hN r r' hr).bd fun e2 ts ts' h => ?_
        split
        · exact ⟨rfl, h⟩
        · exact ih _ ts ts' h
theorem two_al {E : Bool → Nat → List Tok → Ou Ex} (hE : AE E) (g : Nat) : ∀ (m : Nat) (fl : Bool) (d : Nat) (a b : List Tok), Al a b → Rl (two E g m fl d a) (two E g m fl d b) := by
  intro m
  induction m with
  | zero => intro fl d a b h; simp only [two]; exact un_al hE g g fl d a b h
  | succ m ih => intro fl d a b h; simp only [two]; exact (ih fl d a b h).bd fun e ts ts' h => lp_al _ _ (fun a b h => ih false d a b h) g e ts ts' h
theorem expr_al : ∀ (f : Nat), AE (expr f) := by
  intro f
  induction f with
  | zero => intro fl d a b h; exact trivial
  | succ f ih => intro fl d a b h; simp only [expr]; exact two_al ih (f + 1) 5 fl d a b h
section
variable {E : Nat → List Tok → Ou Ex} (hE : ∀ d a b, Al a b → Rl (E d a) (E d b))
theorem ended_al (kind : Int) (nm : Bs) (e : Exs) {a b : List Tok} (h : Al a b) : Rl (ended kind nm e a) (ended kind nm e b) := (must_al [59] false h).bd fun _ ts ts' h => ⟨rfl, h⟩
include hE
theorem lone_al (d : Nat) {a b : List Tok} (h : Al a b) : Rl (lone E d a) (lone E d b) := (hE d a b h).bd fun e ts ts' h => ⟨rfl, h⟩
theorem asg_al (d : Nat) (kind : Int) (nm : Bs) {a b : List Tok} (h : Al a b) : Rl (asg E d kind nm a) (asg E d kind nm b) :=
  (must_al [61] false h).bd fun _ ts ts' h => (lone_al hE d h).bd fun e ts ts' h => ended_al kind nm e h
theorem returned_al (d : Nat) {a b : List Tok} (h : Al a b) : Rl (returned E d a) (returned E d b) := by
  rcases h.two with ⟨rfl, rfl⟩ | ⟨t, t', r, r', rfl, rfl, h1, h2, h3, h4, hr⟩
  · exact trivial
  · simp only [returned, h2]
    split
    · exact ended_al 5 [] .nil h
    · exact (lone_al hE d h).bd fun e ts ts' h => ended_al 5 [] e h
variable {C : Nat → Ex → List Tok → Ou Ex} (hC : ∀ d e a b, Al a b → Rl (C d e a) (C d e b))
include hC in
theorem named_al (d : Nat) {a b : List Tok} (h : Al a b) : Rl (named E C d a) (named E C d b) := by
  refine (refr_al false h).bd fun e ts ts' h => ?_
  rcases h.two with ⟨rfl, rfl⟩ | ⟨t, t', r, r', rfl, rfl, h1, h2, h3, h4, hr⟩
  · exact trivial
  · simp only [h2]
    split
    · exact asg_al hE d 2 e.1.name h
    · exact (hC d e _ _ h).bd fun c ts ts' h => ended_al 9 [] _ h
variable {B : Nat → List Tok → Ou Sts} (hB : ∀ d a b, Al a b → Rl (B d a) (B d b))
include hB in
theorem branch_al (d : Nat) {a b : List Tok} (h : Al a b) : Rl (branch E B d a) (branch E B d b) := by
  refine (lone_al hE d h).bd fun e ts ts' h => (hB d ts ts' h).bd fun x ts ts' h => (has_al _ false h).bd fun y ts ts' h => ?_
  split
  · exact (hB d ts ts' h).bd fun l ts ts' h => ⟨rfl, h⟩
  · exact ⟨rfl, h⟩
include hB in
theorem while_al (d : Nat) {a b : List Tok} (h : Al a b) : Rl (while_ E B d a) (while_ E B d b) :=
  (lone_al hE d h).bd fun e ts ts' h => (hB d ts ts' h).bd fun x ts ts' h => ⟨rfl, h⟩
include hB in
omit hE in
theorem tried_al (d : Nat) {a b : List Tok} (h : Al a b) : Rl (tried B d a) (tried B d b) :=
  (hB d a b h).bd fun x ts ts' h => (must_al _ false h).bd fun _ ts ts' h => (name_al false h).bd fun n ts ts' h => (hB d ts ts' h).bd fun l ts ts' h => ⟨rfl, h⟩
include hC hB in
theorem stm_al (d : Nat) {a b : List Tok} (h : Al a b) : Rl (stm E C B d a) (stm E C B d b) := by
  rcases h.two with ⟨rfl, rfl⟩ | ⟨t, t', r, r', rfl, rfl, h1, h2, h3, h4, hr⟩
  · exact trivial
  · simp only [stm, h1, h2]
    repeat' split
    · exact named_al hE hC d h
    · exact (name_al false hr).bd fun n ts ts' h => asg_al hE d 1 n h
    · exact branch_al hE hB d hr
    · exact while_al hE hB d hr
    · exact returned_al hE d hr
    · exact (lone_al hE d hr).bd fun e ts ts' h => ended_al 6 [] e h
    · exact (lone_al hE d hr).bd fun e ts ts' h => ended_al 7 [] e h
    · exact tried_al hB d hr
    · exact rfl
end
theorem sts_al (S : List Tok → Ou St) (hS : ∀ a b, Al a b → Rl (S a) (S b)) : ∀ (g : Nat) (acc : Sts) (a b : List Tok), Al a b → Rl (sts S g acc a) (sts S g acc b) := by
  intro g
  induction g with
  | zero => intro acc a b h; simp only [sts]; exact trivial
  | succ g ih =>
    intro acc a b h
    rcases h.two with ⟨rfl, rfl⟩ | ⟨t, t', r, r', rfl, rfl, h1, h2, h3, h4, hr⟩
    · simp only [sts]; exact trivial
    · simp only [sts, h2]
      split
      · exact ⟨rfl, h⟩
      · exact (hS _ _ h).bd fun s ts ts' h => ih _ ts ts' h
theorem blk_al {E : Nat → List Tok → Ou Ex} {C : Nat → Ex → List Tok → Ou Ex} (g : Nat) (hE : ∀ d a b, Al a b → Rl (E d a) (E d b)) (hC : ∀ d e a b, Al a b → Rl (C d e a) (C d e b)) : ∀ (f : Nat) (d : Nat) (a b : List Tok), Al a b → Rl (blk E C g f d a) (blk E C g f d b) := by
  intro f
  induction f with
  | zero => intro d a b h; simp only [blk]; exact trivial
  | succ f ih =>
    intro d a b h
    simp only [blk]
    exact (opn_al _ false d h).bd fun _ ts ts' h => (sts_al _ (fun a b h => stm_al hE hC ih (d + 1) h) g .nil ts ts' h).bd fun l ts ts' h => (must_al _ false h).bd fun _ ts ts' h => ⟨rfl, h⟩
theorem typ_al {a b : List Tok} (h : Al a b) : Rl (typ a) (typ b) := by
  rcases h.two with ⟨rfl, rfl⟩ | ⟨t, t', r, r', rfl, rfl, h1, h2, h3, h4, hr⟩
  · exact trivial
  · simp only [typ, h2]
    repeat' split
    all_goals first | exact rfl | exact ⟨rfl, hr⟩
theorem par1_al (fl : Bool) {a b : List Tok} (h : Al a b) : Rl (par1 fl a) (par1 fl b) :=
  (name_al fl h).bd fun n ts ts' h => (must_al [58] false h).bd fun _ ts ts' h => (typ_al h).bd fun t ts ts' h => ⟨rfl, h⟩
theorem rwP_al : ∀ (g : Nat) (acc : List Pa) (a b : List Tok), Al a b → Rl (rwP g acc a) (rwP g acc b) := by
  intro g
  induction g with
  | zero => intro acc a b h; simp only [rwP]; exact trivial
  | succ g ih =>
    intro acc a b h
    rcases h.two with ⟨rfl, rfl⟩ | ⟨t, t', r, r', rfl, rfl, h1, h2, h3, h4, hr⟩
    · simp only [rwP]; exact trivial
    · simp only [rwP, h2]
      split
      · exact (par1_al _ hr).bd fun e ts ts' h => ih _ ts ts' h
      · exact ⟨rfl, h⟩
theorem params_al (g : Nat) {a b : List Tok} (h : Al a b) : Rl (params g a) (params g b) := by
  rcases h.two with ⟨rfl, rfl⟩ | ⟨t, t', r, r', rfl, rfl, h1, h2, h3, h4, hr⟩
  · exact trivial
  · simp only [params, h2]
    split
    · exact ⟨rfl, h⟩
    · exact (par1_al false h).bd fun p ts ts' h => rwP_al g [p] ts ts' h
theorem result_al {a b : List Tok} (h : Al a b) : Rl (result a) (result b) := by
  refine (has_al [58] false h).bd fun y ts ts' h => ?_
  split
  · exact typ_al h
  · exact ⟨rfl, h⟩
section
variable {E : Nat → List Tok → Ou Ex} (hE : ∀ d a b, Al a b → Rl (E d a) (E d b))
variable {B : Nat → List Tok → Ou Sts} (hB : ∀ d a b, Al a b → Rl (B d a) (B d b)) (g : Nat)
include hE in
theorem holder_al (kind : Int) (ex : Bool) {a b : List Tok} (h : Al a b) : Rl (holder E kind ex a) (holder E kind ex b) :=
  (name_al false h).bd fun n ts ts' h => (must_al [58] false h).bd fun _ ts ts' h => (typ_al h).bd fun t ts ts' h => (must_al [61] false h).bd fun _ ts ts' h => (lone_al hE 0 h).bd fun e ts ts' h => (must_al [59] false h).bd fun _ ts ts' h => ⟨rfl, h⟩
include hB in
theorem fnc_al (ex : Bool) {a b : List Tok} (h : Al a b) : Rl (fnc B g ex a) (fnc B g ex b) :=
  (name_al false h).bd fun n ts ts' h => (must_al [40] false h).bd fun _ ts ts' h => (params_al g h).bd fun ps ts ts' h => (must_al [41] false h).bd fun _ ts ts' h => (result_al h).bd fun t ts ts' h => (hB 0 ts ts' h).bd fun x ts ts' h => ⟨rfl, h⟩
include hE hB
theorem dcl2_al (ex fl : Bool) {a b : List Tok} (h : Al a b) : Rl (dcl2 E B g ex fl a) (dcl2 E B g ex fl b) := by
  rcases h.two with ⟨rfl, rfl⟩ | ⟨t, t', r, r', rfl, rfl, h1, h2, h3, h4, hr⟩
  · exact trivial
  · simp only [dcl2, h2]
    repeat' split
    all_goals first | exact rfl | exact holder_al hE _ ex hr | exact fnc_al hB g ex hr
theorem dcl_al (fl : Bool) {a b : List Tok} (h : Al a b) : Rl (dcl E B g fl a) (dcl E B g fl b) := by
  rcases h.two with ⟨rfl, rfl⟩ | ⟨t, t', r, r', rfl, rfl, h1, h2, h3, h4, hr⟩
  · exact trivial
  · simp only [dcl, h2]
    repeat' split
    all_goals first | exact rfl | exact dcl2_al hE hB g true false hr | exact dcl2_al hE hB g false fl h
theorem dcls_al : ∀ (f : Nat) (acc : List De) (a b : List Tok), Al a b → Rl (dcls E B g f acc a) (dcls E B g f acc b) := by
  intro f
  induction f with
  | zero => intro acc a b h; simp only [dcls]; exact trivial
  | succ f ih =>
    intro acc a b h
    rcases h.two with ⟨rfl, rfl⟩ | ⟨t, t', r, r', rfl, rfl, h1, h2, h3, h4, hr⟩
    · simp only [dcls]; exact trivial
    · rcases hr.two with ⟨rfl, rfl⟩ | ⟨u, u', r2, r2', rfl, rfl, _⟩
      · simp only [dcls]; exact ⟨rfl, h⟩
      · simp only [dcls]
        exact (dcl_al hE hB g _ h).bd fun d ts ts' h => ih _ ts ts' h
end
theorem imp1_al (fl : Bool) {a b : List Tok} (h : Al a b) : Rl (imp1 fl a) (imp1 fl b) :=
  (must_al _ fl h).bd fun _ ts ts' h => (name_al false h).bd fun n ts ts' h => (must_al [59] false h).bd fun _ ts ts' h => ⟨rfl, h⟩
theorem imps_al : ∀ (f : Nat) (acc : List Bs) (a b : List Tok), Al a b → Rl (imps f acc a) (imps f acc b) := by
  intro f
  induction f with
  | zero => intro acc a b h; simp only [imps]; exact trivial
  | succ f ih =>
    intro acc a b h
    rcases h.two with ⟨rfl, rfl⟩ | ⟨t, t', r, r', rfl, rfl, h1, h2, h3, h4, hr⟩
    · simp only [imps]; exact trivial
    · simp only [imps, h2]
      split
      · exact (imp1_al _ h).bd fun n ts ts' h => ih _ ts ts' h
      · exact ⟨rfl, h⟩
theorem mdl_al (g : Nat) {a b : List Tok} (h : Al a b) : Rl (mdl g a) (mdl g b) :=
  (must_al _ false h).bd fun _ ts ts' h => (name_al false h).bd fun n ts ts' h => (must_al [59] false h).bd fun _ ts ts' h => (imps_al g [] ts ts' h).bd fun is ts ts' h =>
    (dcls_al (fun d a b h => expr_al g false d a b h) (fun d a b h => blk_al g (fun d a b h => expr_al g false d a b h) (fun d e a b h => call_al (expr_al g) g d e h) g d a b h) g g [] ts ts' h).bd fun ds ts ts' h => ⟨rfl, h⟩
/-- P704. -/
theorem parT_al {a b : List Tok} (h : Al a b) (n n' : Nat) (m : Option Mo) (p : Nat) (c : Int) (hm : parT a n = some (m, p, c)) : ∃ p', parT b n' = some (m, p', c) := by
  have hl : a.length = b.length := by have := congrArg List.length h; simpa using this
  have h1 : Al (a ++ [endT n]) (b ++ [endT n']) := by
    simp only [Al, List.map_append, List.map_cons, List.map_nil, Tok.core, endT]
    rw [show a.map Tok.core = b.map Tok.core from h]
  have h2 := mdl_al (a.length + 2) h1
  unfold parT at hm ⊢
  rw [← hl]
  generalize mdl (a.length + 2) (a ++ [endT n]) = x at h2 hm
  generalize mdl (a.length + 2) (b ++ [endT n']) = y at h2
  match x, y, h2 with
  | none, none, _ => simp [whole] at hm
  | some (.er q c1), some (.er q' c2), h => cases h; simp only [whole, Option.some.injEq, Prod.mk.injEq] at hm ⊢; exact ⟨q', hm.1, rfl, hm.2.2⟩
  | some (.ok e ts), some (.ok e' ts'), ⟨h1, h2⟩ =>
    subst h1
    rcases h2.two with ⟨rfl, rfl⟩ | ⟨t, t', r, r', rfl, rfl, g1, g2, g3, g4, hr⟩
    · simp [whole] at hm
    · rcases hr.two with ⟨rfl, rfl⟩ | ⟨u, u', r2, r2', rfl, rfl, _⟩
      · simp only [whole, Option.some.injEq, Prod.mk.injEq] at hm ⊢; exact ⟨0, hm.1, rfl, hm.2.2⟩
      · simp only [whole, Option.some.injEq, Prod.mk.injEq] at hm ⊢; exact ⟨t'.p, hm.1, rfl, hm.2.2⟩
end Pz
end Go.Proofs.YtpkaekokkhecmaaGreatDoor
