/- Plain: what is wrong is told by a number that is not zero. -/
import Derived.Test.YteijjaabngkbjaaGreatDoorPsF
namespace Go.Proofs.YteijjaabngkbjaaGreatDoor
set_option linter.unusedSimpArgs false
set_option linter.unusedVariables false
namespace Pz
open Lx Te

def Nz {α : Type} : Ou α → Prop
  | some (.er p c) => c ≠ 0
  | _ => True
theorem Nz.ok {α : Type} {a : α} {ts : List Tok} : Nz (some (.ok a ts)) := trivial
theorem Nz.no {α : Type} : Nz (none : Ou α) := trivial
theorem Nz.bd {α β : Type} {m : Ou α} {k : α → List Tok → Ou β} (h : Nz m) (hk : ∀ a ts, Nz (k a ts)) : Nz (bd m k) := by
  rcases m with _ | ⟨a, ts⟩ | ⟨p, c⟩
  · trivial
  · exact hk a ts
  · exact h
theorem Nz.ite {α : Type} {c : Prop} [Decidable c] {a b : Ou α} (h1 : Nz a) (h2 : Nz b) : Nz (if c then a else b) := by
  split
  · exact h1
  · exact h2
theorem Nz.e3 {α : Type} {p : Nat} : Nz (some (.er p 3) : Ou α) := show (3 : Int) ≠ 0 by decide
theorem Nz.e11 {α : Type} {p : Nat} : Nz (some (.er p 11) : Ou α) := show (11 : Int) ≠ 0 by decide
theorem Nz.e13 {α : Type} {p : Nat} : Nz (some (.er p 13) : Ou α) := show (13 : Int) ≠ 0 by decide
theorem must_nz (s : Bs) (fl : Bool) (ts : List Tok) : Nz (must s fl ts) := by
  cases ts with
  | nil => trivial
  | cons t r => exact Nz.ite (Nz.ite Nz.e3 Nz.ok) Nz.e11
theorem has_nz (s : Bs) (fl : Bool) (ts : List Tok) : Nz (has s fl ts) := by
  cases ts with
  | nil => trivial
  | cons t r => exact Nz.ite (Nz.ite Nz.e3 Nz.ok) Nz.ok
theorem name_nz (fl : Bool) (ts : List Tok) : Nz (name fl ts) := by
  cases ts with
  | nil => trivial
  | cons t r => exact Nz.ite (Nz.ite Nz.e3 Nz.ok) Nz.e11
theorem opn_nz (s : Bs) (fl : Bool) (d : Nat) (ts : List Tok) : Nz (opn s fl d ts) := by
  cases ts with
  | nil => trivial
  | cons t r => exact Nz.ite (Nz.ite Nz.e13 (Nz.ite Nz.e3 Nz.ok)) Nz.e11
theorem refr_nz (fl : Bool) (ts : List Tok) : Nz (refr fl ts) :=
  (name_nz fl ts).bd fun n ts => (has_nz _ _ _).bd fun b ts => Nz.ite ((name_nz _ _).bd fun m ts => Nz.ok) Nz.ok
section
variable {E : Bool → Nat → List Tok → Ou Ex} (hE : ∀ fl d ts, Nz (E fl d ts))
include hE
theorem ins_nz (fl : Bool) (d : Nat) (ts : List Tok) : Nz (ins E fl d ts) :=
  (opn_nz _ _ _ _).bd fun _ ts => (hE _ _ _).bd fun e ts => (must_nz _ _ _).bd fun _ ts => Nz.ok
theorem rwE_nz (d : Nat) : ∀ (g : Nat) (acc : Exs) (ts : List Tok), Nz (rwE E d g acc ts) := by
  intro g
  induction g with
  | zero => intro acc ts; trivial
  | succ g ih =>
    intro acc ts
    cases ts with
    | nil => trivial
    | cons t r => exact Nz.ite ((hE _ d r).bd fun e ts => ih _ ts) Nz.ok
theorem args_nz (g d : Nat) (ts : List Tok) : Nz (args E g d ts) := by
  unfold args
  split
  · exact Nz.ite Nz.ok ((opn_nz _ _ _ _).bd fun _ ts => (hE _ _ _).bd fun e ts => (rwE_nz hE _ g _ _).bd fun l ts => (must_nz _ _ _).bd fun _ ts => Nz.ok)
  · exact Nz.ite Nz.no Nz.e11
  · trivial
theorem call_nz (g d : Nat) (e : Ex) (ts : List Tok) : Nz (call E g d e ts) := (args_nz hE g d ts).bd fun l ts => Nz.ok
theorem pr_nz (g : Nat) (fl : Bool) (d : Nat) (ts : List Tok) : Nz (pr E g fl d ts) := by
  unfold pr
  split
  · trivial
  refine Nz.ite (Nz.ite Nz.e3 Nz.ok) (Nz.ite ?_ (Nz.ite (Nz.ite Nz.e3 Nz.ok) (Nz.ite (Nz.ite Nz.e3 Nz.ok) (Nz.ite (Nz.ite Nz.e3 Nz.ok) (Nz.ite (Nz.ite Nz.e3 Nz.ok) (Nz.ite (Nz.ite Nz.e3 Nz.ok) (Nz.ite (Nz.ite Nz.e3 ((ins_nz hE _ _ _).bd fun e ts => Nz.ok)) (Nz.ite (Nz.ite Nz.e3 ((ins_nz hE _ _ _).bd fun e ts => Nz.ok)) (ins_nz hE _ _ _)))))))))
  refine (refr_nz fl _).bd fun e ts => ?_
  cases ts with
  | nil => trivial
  | cons u r' => exact Nz.ite (call_nz hE g d e _) Nz.ok
theorem un_nz (g : Nat) : ∀ (f : Nat) (fl : Bool) (d : Nat) (ts : List Tok), Nz (un E g f fl d ts) := by
  intro f
  induction f with
  | zero => intro fl d ts; trivial
  | succ f ih =>
    intro fl d ts
    cases ts with
    | nil => trivial
    | cons t r => exact Nz.ite ((opn_nz _ _ _ _).bd fun _ ts => (ih _ _ ts).bd fun e ts => Nz.ok) (Nz.ite ((opn_nz _ _ _ _).bd fun _ ts => (ih _ _ ts).bd fun e ts => Nz.ok) (pr_nz hE g fl d _))
end
theorem lp_nz {N : List Tok → Ou Ex} (lv : Nat) (hN : ∀ ts, Nz (N ts)) : ∀ (f : Nat) (e : Ex) (ts : List Tok), Nz (lp N lv f e ts) := by
  intro f
  induction f with
  | zero => intro e ts; trivial
  | succ f ih =>
    intro e ts
    cases ts with
    | nil => trivial
    | cons t r => exact Nz.ite Nz.ok ((hN r).bd fun e2 ts => Nz.ite Nz.ok (ih _ ts))
theorem two_nz {E : Bool → Nat → List Tok → Ou Ex} (hE : ∀ fl d ts, Nz (E fl d ts)) (g : Nat) : ∀ (n : Nat) (fl : Bool) (d : Nat) (ts : List Tok), Nz (two E g n fl d ts) := by
  intro n
  induction n with
  | zero => intro fl d ts; exact un_nz hE g g fl d ts
  | succ n ih => intro fl d ts; exact (ih fl d ts).bd fun e ts => lp_nz _ (fun ts => ih false d ts) g e ts
theorem expr_nz : ∀ (f : Nat) (fl : Bool) (d : Nat) (ts : List Tok), Nz (expr f fl d ts)
  | 0, _, _, _ => trivial
  | f + 1, fl, d, ts => two_nz (expr_nz f) (f + 1) 5 fl d ts
section
variable {E : Nat → List Tok → Ou Ex} {C : Nat → Ex → List Tok → Ou Ex} {B : Nat → List Tok → Ou Sts} (hE : ∀ d ts, Nz (E d ts)) (hC : ∀ d e ts, Nz (C d e ts)) (hB : ∀ d ts, Nz (B d ts))
include hE in
theorem lone_nz (d : Nat) (ts : List Tok) : Nz (lone E d ts) := (hE d ts).bd fun e ts => Nz.ok
theorem ended_nz (kind : Int) (n : Bs) (e : Exs) (ts : List Tok) : Nz (ended kind n e ts) := (must_nz _ _ _).bd fun _ ts => Nz.ok
include hE in
theorem asg_nz (d : Nat) (kind : Int) (n : Bs) (ts : List Tok) : Nz (asg E d kind n ts) := (must_nz _ _ _).bd fun _ ts => (lone_nz hE d ts).bd fun e ts => ended_nz kind n e ts
include hE hC in
theorem named_nz (d : Nat) (ts : List Tok) : Nz (named E C d ts) := by
  unfold named
  refine (refr_nz false ts).bd fun e ts => ?_
  cases ts with
  | nil => trivial
  | cons u r => exact Nz.ite (asg_nz hE d 2 _ _) ((hC d e _).bd fun c ts => ended_nz 9 [] _ ts)
include hE hB in
theorem branch_nz (d : Nat) (ts : List Tok) : Nz (branch E B d ts) :=
  (lone_nz hE d ts).bd fun e ts => (hB d ts).bd fun b ts => (has_nz _ _ _).bd fun y ts => Nz.ite ((hB d ts).bd fun l ts => Nz.ok) Nz.ok
include hE hC hB in
theorem stm_nz (d : Nat) (ts : List Tok) : Nz (stm E C B d ts) := by
  unfold stm
  split
  · trivial
  refine Nz.ite (named_nz hE hC d _) (Nz.ite ((name_nz false _).bd fun n ts => asg_nz hE d 1 n ts) (Nz.ite (branch_nz hE hB d _) (Nz.ite ((lone_nz hE d _).bd fun e ts => (hB d ts).bd fun b ts => Nz.ok) (Nz.ite ?_
    (Nz.ite ((lone_nz hE d _).bd fun e ts => ended_nz 6 [] e ts) (Nz.ite ((lone_nz hE d _).bd fun e ts => ended_nz 7 [] e ts) (Nz.ite ((hB d _).bd fun b ts => (must_nz _ _ _).bd fun _ ts => (name_nz _ _).bd fun n ts => (hB d ts).bd fun l ts => Nz.ok) Nz.e11)))))))
  unfold returned
  split
  · trivial
  · exact Nz.ite (ended_nz 5 [] _ _) ((lone_nz hE d _).bd fun e ts => ended_nz 5 [] e ts)
end
theorem sts_nz {S : List Tok → Ou St} (hS : ∀ ts, Nz (S ts)) : ∀ (g : Nat) (acc : Sts) (ts : List Tok), Nz (sts S g acc ts) := by
  intro g
  induction g with
  | zero => intro acc ts; trivial
  | succ g ih =>
    intro acc ts
    cases ts with
    | nil => trivial
    | cons t r => exact Nz.ite Nz.ok ((hS _).bd fun s ts => ih _ ts)
theorem blk_nz {E : Nat → List Tok → Ou Ex} {C : Nat → Ex → List Tok → Ou Ex} (hE : ∀ d ts, Nz (E d ts)) (hC : ∀ d e ts, Nz (C d e ts)) (g : Nat) : ∀ f d ts, Nz (blk E C g f d ts) := by
  intro f
  induction f with
  | zero => intro d ts; trivial
  | succ f ih => intro d ts; exact (opn_nz _ _ _ _).bd fun _ ts => (sts_nz (fun ts => stm_nz hE hC ih (d + 1) ts) g .nil ts).bd fun l ts => (must_nz _ _ _).bd fun _ ts => Nz.ok
theorem typ_nz (ts : List Tok) : Nz (typ ts) := by
  unfold typ
  split
  · trivial
  · exact Nz.ite Nz.ok (Nz.ite Nz.ok (Nz.ite Nz.ok Nz.e11))
theorem par1_nz (fl : Bool) (ts : List Tok) : Nz (par1 fl ts) := (name_nz fl ts).bd fun n ts => (must_nz _ _ _).bd fun _ ts => (typ_nz _).bd fun t ts => Nz.ok
theorem rwP_nz : ∀ (g : Nat) (acc : List Pa) (ts : List Tok), Nz (rwP g acc ts) := by
  intro g
  induction g with
  | zero => intro acc ts; trivial
  | succ g ih =>
    intro acc ts
    cases ts with
    | nil => trivial
    | cons t r => exact Nz.ite ((par1_nz _ r).bd fun p ts => ih _ ts) Nz.ok
section
variable {E : Nat → List Tok → Ou Ex} {B : Nat → List Tok → Ou Sts} (hE : ∀ d ts, Nz (E d ts)) (hB : ∀ d ts, Nz (B d ts)) (g : Nat)
include hE in
theorem holder_nz (kind : Int) (ex : Bool) (ts : List Tok) : Nz (holder E kind ex ts) :=
  (name_nz false ts).bd fun n ts => (must_nz _ _ _).bd fun _ ts => (typ_nz _).bd fun t ts => (must_nz _ _ _).bd fun _ ts => (lone_nz hE 0 _).bd fun e ts => (must_nz _ _ _).bd fun _ ts => Nz.ok
theorem params_nz (ts : List Tok) : Nz (params g ts) := by
  unfold params
  split
  · trivial
  · exact Nz.ite Nz.ok ((par1_nz false _).bd fun p ts => rwP_nz g [p] ts)
theorem result_nz (ts : List Tok) : Nz (result ts) := (has_nz _ _ _).bd fun y ts => Nz.ite (typ_nz _) Nz.ok
include hB in
theorem fnc_nz (ex : Bool) (ts : List Tok) : Nz (fnc B g ex ts) :=
  (name_nz false ts).bd fun n ts => (must_nz _ _ _).bd fun _ ts => (params_nz g _).bd fun ps ts => (must_nz _ _ _).bd fun _ ts => (result_nz _).bd fun t ts => (hB 0 _).bd fun b ts => Nz.ok
include hE hB in
theorem dcl2_nz (ex fl : Bool) (ts : List Tok) : Nz (dcl2 E B g ex fl ts) := by
  unfold dcl2
  split
  · trivial
  · exact Nz.ite (Nz.ite Nz.e3 (holder_nz hE 1 ex _)) (Nz.ite (Nz.ite Nz.e3 (holder_nz hE 2 ex _)) (Nz.ite (Nz.ite Nz.e3 (fnc_nz hB g ex _)) Nz.e11))
include hE hB in
theorem dcl_nz (fl : Bool) (ts : List Tok) : Nz (dcl E B g fl ts) := by
  unfold dcl
  split
  · trivial
  · exact Nz.ite (Nz.ite Nz.e3 (dcl2_nz hE hB g true false _)) (dcl2_nz hE hB g false fl _)
include hE hB in
theorem dcls_nz : ∀ (f : Nat) (acc : List De) (ts : List Tok), Nz (dcls E B g f acc ts) := by
  intro f
  induction f with
  | zero => intro acc ts; trivial
  | succ f ih =>
    intro acc ts
    match ts with
    | [] => trivial
    | [t] => exact Nz.ok
    | t :: u :: r => exact (dcl_nz hE hB g _ _).bd fun d ts => ih _ ts
end
theorem imps_nz : ∀ (f : Nat) (acc : List Bs) (ts : List Tok), Nz (imps f acc ts) := by
  intro f
  induction f with
  | zero => intro acc ts; trivial
  | succ f ih =>
    intro acc ts
    cases ts with
    | nil => trivial
    | cons t r => exact Nz.ite ((show Nz (imp1 _ _) from (must_nz _ _ _).bd fun _ ts => (name_nz false _).bd fun n ts => (must_nz _ _ _).bd fun _ ts => Nz.ok).bd fun p ts => ih _ ts) Nz.ok
theorem parT_nz (ts : List Tok) (n : Nat) (r : Option Mo) (p : Nat) (c : Int) (h : parT ts n = some (r, p, c)) : (c = 0 ∧ p = 0 ∧ ∃ m, r = some m) ∨ (c ≠ 0 ∧ r = none) := by
  have hE := expr_nz (ts.length + 2)
  have hE0 : ∀ d ts', Nz (E0 (ts.length + 2) d ts') := fun d ts' => hE false d ts'
  have hC0 : ∀ d e ts', Nz (C0 (ts.length + 2) d e ts') := fun d e ts' => call_nz hE _ d e ts'
  have hB0 : ∀ d ts', Nz (B0 (ts.length + 2) d ts') := fun d ts' => blk_nz hE0 hC0 _ _ d ts'
  have hm : Nz (mdl (ts.length + 2) (ts ++ [endT n])) :=
    (must_nz _ _ _).bd fun _ ts1 => (name_nz false _).bd fun x ts2 => (must_nz _ _ _).bd fun _ ts3 => (imps_nz _ [] _).bd fun is ts4 => (dcls_nz hE0 hB0 _ _ [] _).bd fun ds ts5 => Nz.ok
  unfold parT whole at h
  split at h
  · cases h
  · rename_i p' c' heq
    rw [heq] at hm
    simp only [Option.some.injEq, Prod.mk.injEq] at h
    exact Or.inr ⟨h.2.2 ▸ hm, h.1.symm⟩
  · simp only [Option.some.injEq, Prod.mk.injEq] at h
    exact Or.inl ⟨h.2.2.symm, h.2.1.symm, _, h.1.symm⟩
  · simp only [Option.some.injEq, Prod.mk.injEq] at h
    exact Or.inr ⟨by rw [← h.2.2]; decide, h.1.symm⟩
  · cases h
end Pz
end Go.Proofs.YteijjaabngkbjaaGreatDoor
