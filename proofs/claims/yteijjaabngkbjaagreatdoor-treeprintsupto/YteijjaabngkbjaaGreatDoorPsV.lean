/- Plain: what is read is no more than its tokens. -/
import Derived.Test.YteijjaabngkbjaaGreatDoorPsN
namespace Go.Proofs.YteijjaabngkbjaaGreatDoor
set_option linter.unusedSimpArgs false
set_option linter.unusedVariables false
namespace Pz
open Lx Te

/-- What is read, and what is left, are no more than n. -/
def Sz {α : Type} (f : α → Nat) (n : Nat) : Ou α → Prop
  | some (.ok a ts) => f a + ts.length ≤ n
  | _ => True
theorem Sz.ok {α : Type} {f : α → Nat} {n : Nat} {a : α} {ts : List Tok} (h : f a + ts.length ≤ n) : Sz f n (some (.ok a ts)) := h
theorem Sz.bd {α β : Type} {f : α → Nat} {f' : β → Nat} {n n' : Nat} {m : Ou α} {k : α → List Tok → Ou β} (h : Sz f n m) (hk : ∀ a ts, f a + ts.length ≤ n → Sz f' n' (k a ts)) : Sz f' n' (bd m k) := by
  rcases m with _ | ⟨a, ts⟩ | ⟨p, c⟩
  · trivial
  · exact hk a ts h
  · trivial
theorem Sz.mono {α : Type} {f f' : α → Nat} {n n' : Nat} {m : Ou α} (h : Sz f n m) (hk : ∀ a k, f a + k ≤ n → f' a + k ≤ n') : Sz f' n' m := by
  rcases m with _ | ⟨a, ts⟩ | ⟨p, c⟩
  · trivial
  · exact hk a _ h
  · trivial
theorem Sz.ite {α : Type} {f : α → Nat} {n : Nat} {c : Prop} [Decidable c] {a b : Ou α} (h1 : c → Sz f n a) (h2 : ¬ c → Sz f n b) : Sz f n (if c then a else b) := by
  split
  · exact h1 ‹_›
  · exact h2 ‹_›
theorem Exs.app_sz : ∀ (x y : Exs), (x.app y).size = x.size + y.size
  | .nil, y => by simp [Exs.app, Exs.size]
  | .cons h k r, y => by simp only [Exs.app, Exs.size, Exs.app_sz r y]; omega
theorem Sts.app_sz : ∀ (x y : Sts), (x.app y).size = x.size + y.size
  | .nil, y => by simp [Sts.app, Sts.size]
  | .cons h e b l r, y => by simp only [Sts.app, Sts.size, Sts.app_sz r y]; omega
def o1 {α : Type} (_ : α) : Nat := 1
def o0 {α : Type} (_ : α) : Nat := 0
theorem must_sz (s : Bs) (fl : Bool) (ts : List Tok) : Sz o1 ts.length (must s fl ts) := by
  cases ts with
  | nil => trivial
  | cons t r =>
    unfold must
    exact Sz.ite (fun _ => Sz.ite (fun _ => trivial) (fun hf => Sz.ok (by simp [o1]; omega))) (fun _ => trivial)
theorem has_sz (s : Bs) (fl : Bool) (ts : List Tok) : Sz o0 ts.length (has s fl ts) := by
  cases ts with
  | nil => trivial
  | cons t r =>
    unfold has
    exact Sz.ite (fun _ => Sz.ite (fun _ => trivial) (fun hf => Sz.ok (by simp [o0]))) (fun _ => Sz.ok (by simp [o0]))
theorem name_sz (fl : Bool) (ts : List Tok) : Sz o1 ts.length (name fl ts) := by
  cases ts with
  | nil => trivial
  | cons t r =>
    unfold name
    exact Sz.ite (fun _ => Sz.ite (fun _ => trivial) (fun hf => Sz.ok (by simp [o1]; omega))) (fun _ => trivial)
theorem opn_sz (s : Bs) (fl : Bool) (d : Nat) (ts : List Tok) : Sz o1 ts.length (opn s fl d ts) := by
  cases ts with
  | nil => trivial
  | cons t r =>
    unfold opn
    exact Sz.ite (fun _ => Sz.ite (fun _ => trivial) (fun _ => Sz.ite (fun _ => trivial) (fun hf => Sz.ok (by simp [o1]; omega)))) (fun _ => trivial)
def fE (e : Ex) : Nat := e.2.size + 1
theorem refr_sz (fl : Bool) (ts : List Tok) : Sz fE ts.length (refr fl ts) := by
  unfold refr
  refine (name_sz fl ts).bd fun n ts1 h1 => (has_sz _ _ _).bd fun b ts2 h2 => Sz.ite (fun _ => (name_sz _ _).bd fun m ts3 h3 => Sz.ok ?_) (fun _ => Sz.ok ?_)
  all_goals (simp only [o1, o0, fE, Exs.size] at *; omega)
section
variable {E : Bool → Nat → List Tok → Ou Ex}
def SE (E : Bool → Nat → List Tok → Ou Ex) : Prop := ∀ fl d ts, Sz fE ts.length (E fl d ts)
theorem ins_sz (hE : SE E) (fl : Bool) (d : Nat) (ts : List Tok) : Sz (fun e => fE e + 2) ts.length (ins E fl d ts) := by
  unfold ins
  refine (opn_sz _ _ _ _).bd fun _ ts1 h1 => (hE _ _ _).bd fun e ts2 h2 => (must_sz _ _ _).bd fun _ ts3 h3 => Sz.ok ?_
  simp only [o1] at *; omega
theorem rwE_sz (hE : SE E) (d : Nat) : ∀ (g : Nat) (acc : Exs) (ts : List Tok), Sz Exs.size (acc.size + ts.length) (rwE E d g acc ts) := by
  intro g
  induction g with
  | zero => intro acc ts; trivial
  | succ g ih =>
    intro acc ts
    cases ts with
    | nil => trivial
    | cons t r =>
      unfold rwE
      refine Sz.ite (fun _ => ?_) (fun _ => Sz.ok (Nat.le_refl _))
      refine (hE _ d r).bd fun e ts h => (ih _ ts).mono fun a k hk => ?_
      rw [Exs.app_sz] at hk
      simp only [Exs.size, fE, List.length_cons] at *
      omega
theorem args_sz (hE : SE E) (g d : Nat) (ts : List Tok) : Sz (fun l => l.size + 2) ts.length (args E g d ts) := by
  unfold args
  split
  · refine Sz.ite (fun _ => Sz.ok (by simp [Exs.size]; omega)) (fun _ => ?_)
    refine (opn_sz _ _ _ _).bd fun _ ts1 h1 => (hE _ _ _).bd fun e ts2 h2 => (rwE_sz hE _ g _ _).bd fun l ts3 h3 => (must_sz _ _ _).bd fun _ ts4 h4 => Sz.ok ?_
    simp only [o1, Exs.size, fE] at *; omega
  · exact Sz.ite (fun _ => trivial) (fun _ => trivial)
  · trivial
theorem call_sz (hE : SE E) (g d : Nat) (e : Ex) (ts : List Tok) : Sz fE ts.length (call E g d e ts) := by
  unfold call
  refine (args_sz hE g d ts).bd fun l ts1 h1 => Sz.ok ?_
  simp only [fE] at *; omega
theorem pr_sz (hE : SE E) (g : Nat) (fl : Bool) (d : Nat) (ts : List Tok) : Sz fE ts.length (pr E g fl d ts) := by
  unfold pr
  split
  · trivial
  rename_i t r
  have lf : ∀ {x : Ex}, x.2 = .nil → Sz fE (t :: r).length (if fl then some (.er t.p 3) else some (.ok x r)) :=
    fun hx => Sz.ite (fun _ => trivial) (fun hf => Sz.ok (by simp only [fE, hx, Exs.size, List.length_cons]; omega))
  refine Sz.ite (fun hk => lf rfl) (fun _ => ?_)
  refine Sz.ite (fun hk => ?_) (fun _ => ?_)
  · refine (refr_sz fl _).bd fun e ts h => ?_
    cases ts with
    | nil => trivial
    | cons u r' => exact Sz.ite (fun _ => (call_sz hE g d e _).mono fun a k hk => by omega) (fun _ => Sz.ok h)
  refine Sz.ite (fun _ => lf rfl) (fun _ => ?_)
  refine Sz.ite (fun _ => lf rfl) (fun _ => ?_)
  refine Sz.ite (fun _ => lf rfl) (fun _ => ?_)
  refine Sz.ite (fun _ => lf rfl) (fun _ => ?_)
  refine Sz.ite (fun _ => lf rfl) (fun _ => ?_)
  have cv : ∀ op : Int, Sz fE (t :: r).length (if fl then some (.er t.p 3) else bd (ins E false d r) fun e ts => some (.ok (one op e) ts)) :=
    fun op => Sz.ite (fun _ => trivial) (fun hf => (ins_sz hE false d r).bd fun e ts h => Sz.ok (by simp only [fE, one, Exs.size, List.length_cons] at *; omega))
  refine Sz.ite (fun _ => cv 3) (fun _ => ?_)
  refine Sz.ite (fun _ => cv 4) (fun _ => ?_)
  exact (ins_sz hE fl d _).mono fun a k hk => by omega
theorem un_sz (hE : SE E) (g : Nat) : ∀ (f : Nat) (fl : Bool) (d : Nat) (ts : List Tok), Sz fE ts.length (un E g f fl d ts) := by
  intro f
  induction f with
  | zero => intro fl d ts; trivial
  | succ f ih =>
    intro fl d ts
    cases ts with
    | nil => trivial
    | cons t r =>
      unfold un
      have cv : ∀ (s : Bs) (op : Int), Sz fE (t :: r).length (bd (opn s fl d (t :: r)) fun _ ts => bd (un E g f false (d + 1) ts) fun e ts => some (.ok (one op e) ts)) :=
        fun s op => (opn_sz _ _ _ _).bd fun _ ts1 h1 => (ih false (d + 1) ts1).bd fun e ts h => Sz.ok (by simp only [o1, fE, one, Exs.size, List.length_cons] at *; omega)
      exact Sz.ite (fun _ => cv _ _) (fun _ => Sz.ite (fun _ => cv _ _) (fun _ => pr_sz hE g fl d _))
end
theorem lp_sz {N : List Tok → Ou Ex} (lv : Nat) (hN : ∀ ts, Sz fE ts.length (N ts)) : ∀ (f : Nat) (e : Ex) (ts : List Tok), Sz fE (fE e + ts.length) (lp N lv f e ts) := by
  intro f
  induction f with
  | zero => intro e ts; trivial
  | succ f ih =>
    intro e ts
    cases ts with
    | nil => trivial
    | cons t r =>
      unfold lp
      refine Sz.ite (fun _ => Sz.ok (Nat.le_refl _)) (fun hop => (hN r).bd fun e2 ts h => ?_)
      have hb : fE (bin (opOf t.x).1 e e2) + ts.length ≤ fE e + (t :: r).length := by simp only [fE, bin, Exs.size, List.length_cons] at *; omega
      exact Sz.ite (fun _ => Sz.ok hb) (fun _ => (ih _ ts).mono fun a k hk => by omega)
theorem two_sz {E : Bool → Nat → List Tok → Ou Ex} (hE : SE E) (g : Nat) : ∀ (n : Nat) (fl : Bool) (d : Nat) (ts : List Tok), Sz fE ts.length (two E g n fl d ts) := by
  intro n
  induction n with
  | zero => intro fl d ts; exact un_sz hE g g fl d ts
  | succ n ih =>
    intro fl d ts
    unfold two
    exact (ih fl d ts).bd fun e ts h => (lp_sz _ (fun ts => ih false d ts) g e ts).mono fun a k hk => by omega
theorem expr_sz : ∀ (f : Nat), SE (expr f)
  | 0 => fun _ _ _ => trivial
  | f + 1 => fun fl d ts => two_sz (expr_sz f) (f + 1) 5 fl d ts
/- Statements. -/
def fS (s : St) : Nat := s.2.1.size + s.2.2.1.size + s.2.2.2.size + 1
section
variable {E : Nat → List Tok → Ou Ex} {C : Nat → Ex → List Tok → Ou Ex} {B : Nat → List Tok → Ou Sts} (hE : ∀ d ts, Sz fE ts.length (E d ts)) (hC : ∀ d e ts, Sz fE ts.length (C d e ts)) (hB : ∀ d ts, Sz Sts.size ts.length (B d ts))
include hE in
theorem lone_sz (d : Nat) (ts : List Tok) : Sz Exs.size ts.length (lone E d ts) :=
  (hE d ts).bd fun e ts h => Sz.ok (by simp only [fE, Exs.size] at *; omega)
theorem ended_sz (kind : Int) (n : Bs) (e : Exs) (ts : List Tok) : Sz fS (e.size + ts.length) (ended kind n e ts) :=
  (must_sz _ _ _).bd fun _ ts h => Sz.ok (by simp only [o1, fS, Sts.size] at *; omega)
include hE in
theorem asg_sz (d : Nat) (kind : Int) (n : Bs) (ts : List Tok) : Sz fS ts.length (asg E d kind n ts) :=
  (must_sz _ _ _).bd fun _ ts1 h1 => (lone_sz hE d ts1).bd fun e ts2 h2 => (ended_sz kind n e ts2).mono fun a k hk => by simp only [o1] at *; omega
include hE hC in
theorem named_sz (d : Nat) (ts : List Tok) : Sz fS ts.length (named E C d ts) := by
  unfold named
  refine (refr_sz false ts).bd fun e ts1 h1 => ?_
  cases ts1 with
  | nil => trivial
  | cons u r =>
    refine Sz.ite (fun _ => (asg_sz hE d 2 _ _).mono fun a k hk => by omega) (fun _ => ?_)
    exact (hC d e _).bd fun c ts2 h2 => (ended_sz 9 [] _ ts2).mono fun a k hk => by simp only [fE, Exs.size] at *; omega
include hE hB in
theorem branch_sz (d : Nat) (ts : List Tok) : Sz (fun s => s.2.1.size + s.2.2.1.size + s.2.2.2.size) ts.length (branch E B d ts) := by
  unfold branch
  refine (lone_sz hE d ts).bd fun e ts1 h1 => (hB d ts1).bd fun b ts2 h2 => (has_sz _ _ _).bd fun y ts3 h3 => Sz.ite (fun _ => (hB d ts3).bd fun l ts4 h4 => Sz.ok ?_) (fun _ => Sz.ok ?_)
  all_goals (simp only [o0, Sts.size] at *; omega)
include hE hB in
theorem while_sz (d : Nat) (ts : List Tok) : Sz (fun s => s.2.1.size + s.2.2.1.size + s.2.2.2.size) ts.length (while_ E B d ts) := by
  unfold while_
  refine (lone_sz hE d ts).bd fun e ts1 h1 => (hB d ts1).bd fun b ts2 h2 => Sz.ok ?_
  simp only [Sts.size] at *; omega
include hE in
theorem returned_sz (d : Nat) (ts : List Tok) : Sz fS ts.length (returned E d ts) := by
  unfold returned
  split
  · trivial
  exact Sz.ite (fun _ => (ended_sz 5 [] _ _).mono fun a k hk => by simp only [Exs.size] at *; omega) (fun _ => (lone_sz hE d _).bd fun e ts h => (ended_sz 5 [] e ts).mono fun a k hk => by omega)
include hB in
theorem tried_sz (d : Nat) (ts : List Tok) : Sz (fun s => s.2.1.size + s.2.2.1.size + s.2.2.2.size) ts.length (tried B d ts) := by
  unfold tried
  refine (hB d ts).bd fun b ts1 h1 => (must_sz _ _ _).bd fun _ ts2 h2 => (name_sz _ _).bd fun n ts3 h3 => (hB d ts3).bd fun l ts4 h4 => Sz.ok ?_
  simp only [o1, Exs.size] at *; omega
include hE hC hB in
theorem stm_sz (d : Nat) (ts : List Tok) : Sz fS ts.length (stm E C B d ts) := by
  unfold stm
  split
  · trivial
  rename_i t r
  have up : ∀ {m : Ou St}, Sz (fun s => s.2.1.size + s.2.2.1.size + s.2.2.2.size) r.length m → Sz fS (t :: r).length m := fun h => h.mono fun a k hk => by simp only [fS, List.length_cons]; omega
  have up2 : ∀ {m : Ou St}, Sz fS r.length m → Sz fS (t :: r).length m := fun h => h.mono fun a k hk => by simp only [List.length_cons]; omega
  refine Sz.ite (fun _ => named_sz hE hC d _) (fun _ => ?_)
  refine Sz.ite (fun _ => up2 ((name_sz false _).bd fun n ts1 h1 => (asg_sz hE d 1 n ts1).mono fun a k hk => by omega)) (fun _ => ?_)
  refine Sz.ite (fun _ => up (branch_sz hE hB d _)) (fun _ => ?_)
  refine Sz.ite (fun _ => up (while_sz hE hB d _)) (fun _ => ?_)
  refine Sz.ite (fun _ => up2 (returned_sz hE d _)) (fun _ => ?_)
  refine Sz.ite (fun _ => up2 ((lone_sz hE d _).bd fun e ts h => (ended_sz 6 [] e ts).mono fun a k hk => by omega)) (fun _ => ?_)
  refine Sz.ite (fun _ => up2 ((lone_sz hE d _).bd fun e ts h => (ended_sz 7 [] e ts).mono fun a k hk => by omega)) (fun _ => ?_)
  exact Sz.ite (fun _ => up (tried_sz hB d _)) (fun _ => trivial)
end
theorem sts_sz {S : List Tok → Ou St} (hS : ∀ ts, Sz fS ts.length (S ts)) : ∀ (g : Nat) (acc : Sts) (ts : List Tok), Sz Sts.size (acc.size + ts.length) (sts S g acc ts) := by
  intro g
  induction g with
  | zero => intro acc ts; trivial
  | succ g ih =>
    intro acc ts
    cases ts with
    | nil => trivial
    | cons t r =>
      unfold sts
      refine Sz.ite (fun _ => Sz.ok (Nat.le_refl _)) (fun _ => (hS _).bd fun s ts h => (ih _ ts).mono fun a k hk => ?_)
      rw [Sts.app_sz] at hk
      simp only [Sts.size, fS] at *
      omega
theorem blk_sz {E : Nat → List Tok → Ou Ex} {C : Nat → Ex → List Tok → Ou Ex} (hE : ∀ d ts, Sz fE ts.length (E d ts)) (hC : ∀ d e ts, Sz fE ts.length (C d e ts)) (g : Nat) : ∀ f d ts, Sz Sts.size ts.length (blk E C g f d ts) := by
  intro f
  induction f with
  | zero => intro d ts; trivial
  | succ f ih =>
    intro d ts
    unfold blk
    refine (opn_sz _ _ _ _).bd fun _ ts1 h1 => (sts_sz (fun ts => stm_sz hE hC ih (d + 1) ts) g .nil ts1).bd fun l ts2 h2 => (must_sz _ _ _).bd fun _ ts3 h3 => Sz.ok ?_
    simp only [o1, Sts.size] at *; omega
/- Declarations. -/
theorem typ_sz (ts : List Tok) : Sz o1 ts.length (typ ts) := by
  unfold typ
  split
  · trivial
  exact Sz.ite (fun _ => Sz.ok (by simp [o1]; omega)) (fun _ => Sz.ite (fun _ => Sz.ok (by simp [o1]; omega)) (fun _ => Sz.ite (fun _ => Sz.ok (by simp [o1]; omega)) (fun _ => trivial)))
theorem par1_sz (fl : Bool) (ts : List Tok) : Sz o1 ts.length (par1 fl ts) := by
  unfold par1
  refine (name_sz fl ts).bd fun n ts1 h1 => (must_sz _ _ _).bd fun _ ts2 h2 => (typ_sz _).bd fun t ts3 h3 => Sz.ok ?_
  simp only [o1] at *; omega
theorem rwP_sz : ∀ (g : Nat) (acc : List Pa) (ts : List Tok), Sz List.length (acc.length + ts.length) (rwP g acc ts) := by
  intro g
  induction g with
  | zero => intro acc ts; trivial
  | succ g ih =>
    intro acc ts
    cases ts with
    | nil => trivial
    | cons t r =>
      unfold rwP
      refine Sz.ite (fun _ => (par1_sz _ r).bd fun p ts h => (ih _ ts).mono fun a k hk => ?_) (fun _ => Sz.ok (Nat.le_refl _))
      simp only [o1, List.length_append, List.length_cons, List.length_nil] at *; omega
section
variable {E : Nat → List Tok → Ou Ex} {B : Nat → List Tok → Ou Sts} (hE : ∀ d ts, Sz fE ts.length (E d ts)) (hB : ∀ d ts, Sz Sts.size ts.length (B d ts)) (g : Nat)
include hE in
theorem holder_sz (kind : Int) (ex : Bool) (ts : List Tok) : Sz ndD ts.length (holder E kind ex ts) := by
  unfold holder
  refine (name_sz false ts).bd fun n ts1 h1 => (must_sz _ _ _).bd fun _ ts2 h2 => (typ_sz _).bd fun t ts3 h3 => (must_sz _ _ _).bd fun _ ts4 h4 => (lone_sz hE 0 _).bd fun e ts5 h5 => (must_sz _ _ _).bd fun _ ts6 h6 => Sz.ok ?_
  simp only [o1, ndD, Sts.size, List.length_nil] at *; omega
theorem params_sz (ts : List Tok) : Sz List.length ts.length (params g ts) := by
  unfold params
  split
  · trivial
  refine Sz.ite (fun _ => Sz.ok (by simp)) (fun _ => (par1_sz false _).bd fun p ts h => (rwP_sz g [p] ts).mono fun a k hk => ?_)
  simp only [o1, List.length_cons, List.length_nil] at *; omega
theorem result_sz (ts : List Tok) : Sz o0 ts.length (result ts) := by
  unfold result
  exact (has_sz _ _ _).bd fun y ts1 h1 => Sz.ite (fun _ => (typ_sz _).mono fun a k hk => by simp only [o1, o0] at *; omega) (fun _ => Sz.ok (by simp only [o0] at *; omega))
include hB in
theorem fnc_sz (ex : Bool) (ts : List Tok) : Sz ndD ts.length (fnc B g ex ts) := by
  unfold fnc
  refine (name_sz false ts).bd fun n ts1 h1 => (must_sz _ _ _).bd fun _ ts2 h2 => (params_sz g _).bd fun ps ts3 h3 => (must_sz _ _ _).bd fun _ ts4 h4 => (result_sz _).bd fun t ts5 h5 => (hB 0 _).bd fun b ts6 h6 => Sz.ok ?_
  simp only [o1, o0, ndD, Exs.size] at *; omega
include hE hB in
theorem dcl2_sz (ex fl : Bool) (ts : List Tok) : Sz ndD ts.length (dcl2 E B g ex fl ts) := by
  unfold dcl2
  split
  · trivial
  rename_i t r
  have up : ∀ {m : Ou De}, Sz ndD r.length m → Sz ndD (t :: r).length (if fl then some (.er t.p 3) else m) := fun h => Sz.ite (fun _ => trivial) (fun _ => h.mono fun a k hk => by simp only [List.length_cons]; omega)
  exact Sz.ite (fun _ => up (holder_sz hE 1 ex _)) (fun _ => Sz.ite (fun hc => up (holder_sz hE 2 ex _)) (fun _ => Sz.ite (fun _ => up (fnc_sz hB g ex _)) (fun _ => trivial)))
include hE hB in
theorem dcl_sz (fl : Bool) (ts : List Tok) : Sz ndD ts.length (dcl E B g fl ts) := by
  unfold dcl
  split
  · trivial
  exact Sz.ite (fun _ => Sz.ite (fun _ => trivial) (fun hf => (dcl2_sz hE hB g true false _).mono fun d k hd => by simp only [List.length_cons]; omega)) (fun _ => dcl2_sz hE hB g false fl _)
def fDs (l : List De) : Nat := (l.map ndD).sum
include hE hB in
theorem dcls_sz : ∀ (f : Nat) (acc : List De) (ts : List Tok), Sz fDs (fDs acc + ts.length) (dcls E B g f acc ts) := by
  intro f
  induction f with
  | zero => intro acc ts; trivial
  | succ f ih =>
    intro acc ts
    match ts with
    | [] => trivial
    | [t] => exact Sz.ok (Nat.le_refl _)
    | t :: u :: r =>
      unfold dcls
      refine (dcl_sz hE hB g _ _).bd fun d ts h => (ih _ ts).mono fun a k hk => ?_
      simp only [fDs, List.map_append, List.sum_append, List.map_cons, List.map_nil, List.sum_cons, List.sum_nil] at *
      omega
end
theorem imp1_sz (fl : Bool) (ts : List Tok) : Sz o1 ts.length (imp1 fl ts) := by
  unfold imp1
  refine (must_sz _ _ _).bd fun _ ts1 h1 => (name_sz false _).bd fun n ts2 h2 => (must_sz _ _ _).bd fun _ ts3 h3 => Sz.ok ?_
  simp only [o1] at *; omega
theorem imps_sz : ∀ (f : Nat) (acc : List Bs) (ts : List Tok), Sz List.length (acc.length + ts.length) (imps f acc ts) := by
  intro f
  induction f with
  | zero => intro acc ts; trivial
  | succ f ih =>
    intro acc ts
    cases ts with
    | nil => trivial
    | cons t r =>
      unfold imps
      refine Sz.ite (fun _ => (imp1_sz _ _).bd fun p ts h => (ih _ ts).mono fun a k hk => ?_) (fun _ => Sz.ok (Nat.le_refl _))
      simp only [o1, List.length_append, List.length_cons, List.length_nil] at *; omega
/-- What is read of tokens is no more than they. -/
theorem parT_sz (ts : List Tok) (n : Nat) (m : Mo) (p : Nat) (c : Int) (h : parT ts n = some (some m, p, c)) : m.imports.length + fDs m.decls ≤ ts.length := by
  have hE := expr_sz (ts.length + 2)
  have hE0 : ∀ d ts', Sz fE ts'.length (E0 (ts.length + 2) d ts') := fun d ts' => hE false d ts'
  have hC0 : ∀ d e ts', Sz fE ts'.length (C0 (ts.length + 2) d e ts') := fun d e ts' => call_sz hE _ d e ts'
  have hB0 : ∀ d ts', Sz Sts.size ts'.length (B0 (ts.length + 2) d ts') := fun d ts' => blk_sz hE0 hC0 _ _ d ts'
  have hm : Sz (fun m : Mo => m.imports.length + fDs m.decls + 1) (ts ++ [endT n]).length (mdl (ts.length + 2) (ts ++ [endT n])) := by
    unfold mdl
    refine (must_sz _ _ _).bd fun _ ts1 h1 => (name_sz false _).bd fun x ts2 h2 => (must_sz _ _ _).bd fun _ ts3 h3 => (imps_sz _ [] _).bd fun is ts4 h4 => (dcls_sz hE0 hB0 _ _ [] _).bd fun ds ts5 h5 => Sz.ok ?_
    simp only [o1, List.length_nil, fDs, List.map_nil, List.sum_nil] at *
    omega
  unfold parT whole at h
  split at h
  · cases h
  · cases h
  · rename_i a t heq
    rw [heq] at hm
    simp only [Option.some.injEq, Prod.mk.injEq] at h
    rw [← h.1]
    have : a.imports.length + fDs a.decls + 1 + 1 ≤ (ts ++ [endT n]).length := hm
    simp only [List.length_append, List.length_cons, List.length_nil] at this
    omega
  · cases h
  · cases h
end Pz
end Go.Proofs.YteijjaabngkbjaaGreatDoor
