/- Plain: the parser comes to an end. -/
import Derived.Test.YtpkaekokkhecmaaGreatDoorPsS
namespace Go.Proofs.YtpkaekokkhecmaaGreatDoor
set_option linter.unusedSimpArgs false
set_option linter.unusedVariables false
namespace Pz
open Lx Te

/-- Tokens, each with a text, and then the end. -/
def G (ts : List Tok) : Prop := ∃ b n, ts = b ++ [endT n] ∧ ∀ t ∈ b, t.x ≠ []
theorem G.ne {ts : List Tok} (h : G ts) : ts ≠ [] := by
  obtain ⟨b, n, rfl, _⟩ := h
  simp
theorem G.tail {t : Tok} {r : List Tok} (h : G (t :: r)) (ht : t.x ≠ [] ∨ t.k ≠ 0) : G r := by
  obtain ⟨b, n, e, hb⟩ := h
  cases b with
  | nil =>
    simp only [List.nil_append, List.cons.injEq] at e
    obtain ⟨rfl, rfl⟩ := e
    simp [endT] at ht
  | cons t' b =>
    simp only [List.cons_append, List.cons.injEq] at e
    obtain ⟨rfl, rfl⟩ := e
    exact ⟨b, n, rfl, fun t ht => hb t (by simp [ht])⟩
def Fn {α : Type} (n : Nat) (m : Ou α) : Prop :=
  match m with
  | none => False
  | some (.er _ _) => True
  | some (.ok _ ts) => G ts ∧ ts.length ≤ n
theorem Fn.er {α : Type} {n : Nat} (p : Nat) (c : Int) : Fn n (some (.er p c) : Ou α) := trivial
theorem Fn.ok {α : Type} {n : Nat} {a : α} {ts : List Tok} (h : G ts) (hn : ts.length ≤ n) : Fn n (some (.ok a ts)) := ⟨h, hn⟩
theorem Fn.bd {α β : Type} {n n' : Nat} {m : Ou α} {k : α → List Tok → Ou β} (h : Fn n m) (hk : ∀ a ts, G ts → ts.length ≤ n → Fn n' (k a ts)) : Fn n' (bd m k) := by
  match m, h with
  | some (.er p c), _ => exact trivial
  | some (.ok a ts), ⟨h1, h2⟩ => exact hk a ts h1 h2
theorem Fn.mono {α : Type} {n n' : Nat} {m : Ou α} (h : Fn n m) (hn : n ≤ n') : Fn n' m := by
  match m, h with
  | some (.er p c), _ => exact trivial
  | some (.ok a ts), ⟨h1, h2⟩ => exact ⟨h1, Nat.le_trans h2 hn⟩

theorem must_fn (s : Bs) (hs : s ≠ []) (fl : Bool) (ts : List Tok) (h : G ts) : Fn (ts.length - 1) (must s fl ts) := by
  match ts, h.ne, h with
  | t :: r, _, h =>
    simp only [must]
    split
    · split
      · exact trivial
      · exact ⟨h.tail (by rename_i e _; rw [e]; exact Or.inl hs), by simp⟩
    · exact trivial
theorem has_fn (s : Bs) (hs : s ≠ []) (fl : Bool) (ts : List Tok) (h : G ts) : Fn ts.length (has s fl ts) := by
  match ts, h.ne, h with
  | t :: r, _, h =>
    simp only [has]
    split
    · split
      · exact trivial
      · exact ⟨h.tail (by rename_i e _; rw [e]; exact Or.inl hs), by simp⟩
    · exact ⟨h, Nat.le_refl _⟩
theorem name_fn (fl : Bool) (ts : List Tok) (h : G ts) : Fn (ts.length - 1) (name fl ts) := by
  match ts, h.ne, h with
  | t :: r, _, h =>
    simp only [name]
    split
    · split
      · exact trivial
      · exact ⟨h.tail (by rename_i e _; rw [e]; exact Or.inr (by decide)), by simp⟩
    · exact trivial
theorem opn_fn (s : Bs) (hs : s ≠ []) (fl : Bool) (d : Nat) (ts : List Tok) (h : G ts) : Fn (ts.length - 1) (opn s fl d ts) := by
  match ts, h.ne, h with
  | t :: r, _, h =>
    simp only [opn]
    split
    · split
      · exact trivial
      · split
        · exact trivial
        · exact ⟨h.tail (by rename_i e _ _; rw [e]; exact Or.inl hs), by simp⟩
    · exact trivial
theorem refr_fn (fl : Bool) (ts : List Tok) (h : G ts) : Fn (ts.length - 1) (refr fl ts) := by
  refine (name_fn fl ts h).bd fun n ts1 g1 h1 => (has_fn [46] (by simp) false ts1 g1).bd fun b ts2 g2 h2 => ?_
  split
  · exact (name_fn false ts2 g2).bd fun m ts3 g3 h3 => ⟨g3, by omega⟩
  · exact ⟨g2, by omega⟩
theorem G.pos {ts : List Tok} (h : G ts) : 0 < ts.length := List.length_pos_iff.2 h.ne
/-- It reads what has fewer than n tokens. -/
def FE (E : Bool → Nat → List Tok → Ou Ex) (n : Nat) : Prop := ∀ fl d ts, G ts → ts.length < n → Fn (ts.length - 1) (E fl d ts)
section
variable {E : Bool → Nat → List Tok → Ou Ex} {n : Nat} (hE : FE E n)
include hE
theorem ins_fn (fl : Bool) (d : Nat) (ts : List Tok) (h : G ts) (hn : ts.length < n + 1) : Fn (ts.length - 1) (ins E fl d ts) := by
  have p0 := h.pos
  refine (opn_fn [40] (by simp) fl d ts h).bd fun _ ts1 g1 h1 => (hE false (d + 1) ts1 g1 (by omega)).bd fun e ts2 g2 h2 => (must_fn [41] (by simp) false ts2 g2).bd fun _ ts3 g3 h3 => ⟨g3, by omega⟩
theorem rwE_fn (d : Nat) : ∀ (g : Nat) (acc : Exs) (ts : List Tok), G ts → ts.length < n + 1 → ts.length ≤ g → Fn ts.length (rwE E d g acc ts) := by
  intro g
  induction g with
  | zero => intro acc ts h hn hg; have := h.pos; omega
  | succ g ih =>
    intro acc ts h hn hg
    match ts, h.ne, h with
    | t :: r, _, h =>
      simp only [rwE]
      split
      · rename_i e
        have hr := h.tail (Or.inl (by rw [e]; simp))
        simp only [List.length_cons] at hn hg ⊢
        exact (hE _ d r hr (by omega)).bd fun e ts1 g1 h1 => (ih _ ts1 g1 (by omega) (by omega)).mono (by omega)
      · exact ⟨h, Nat.le_refl _⟩
theorem args_fn (g d : Nat) (ts : List Tok) (h : G ts) (hn : ts.length < n + 1) (hg : ts.length ≤ g) : Fn (ts.length - 1) (args E g d ts) := by
  match ts, h.ne, h with
  | [t], _, h =>
    simp only [args]
    split
    · rename_i e
      exact absurd (h.tail (Or.inl (by rw [e]; simp))).ne (by simp)
    · exact trivial
  | t :: u :: r, _, h =>
    simp only [args]
    split
    · rename_i e
      exact ⟨(h.tail (Or.inl (by rw [e.1]; simp))).tail (Or.inl (by rw [e.2]; simp)), by simp⟩
    · refine (opn_fn [40] (by simp) false d _ h).bd fun _ ts1 g1 h1 => ?_
      simp only [List.length_cons] at hn hg h1 ⊢
      refine (hE false (d + 1) ts1 g1 (by omega)).bd fun e ts2 g2 h2 => (rwE_fn hE (d + 1) g _ ts2 g2 (by omega) (by omega)).bd fun l ts3 g3 h3 => (must_fn [41] (by simp) false ts3 g3).bd fun _ ts4 g4 h4 => ⟨g4, by omega⟩
theorem call_fn (g d : Nat) (e : Ex) (ts : List Tok) (h : G ts) (hn : ts.length < n + 1) (hg : ts.length ≤ g) : Fn (ts.length - 1) (call E g d e ts) :=
  (args_fn hE g d ts h hn hg).bd fun l ts1 g1 h1 => ⟨g1, h1⟩
theorem pr_fn (g : Nat) (fl : Bool) (d : Nat) (ts : List Tok) (h : G ts) (hn : ts.length < n + 1) (hg : ts.length ≤ g) : Fn (ts.length - 1) (pr E g fl d ts) := by
  match ts, h.ne, h with
  | t :: r, _, h =>
    simp only [List.length_cons] at hn hg
    simp only [pr]
    have tl : t.x ≠ [] ∨ t.k ≠ 0 → G r := h.tail
    repeat' split
    all_goals first
      | exact trivial
      | (refine ⟨tl ?_, by simp⟩; first | (left; rename_i e _; rw [e]; simp) | (right; rename_i e _; omega))
      | skip
    · refine (refr_fn fl (t :: r) h).bd fun e ts1 g1 h1 => ?_
      match ts1, g1.ne, g1 with
      | u :: r', _, g1 =>
        simp only [List.length_cons] at h1 ⊢
        split
        · exact (call_fn hE g d e _ g1 (by simp only [List.length_cons]; omega) (by simp only [List.length_cons]; omega)).mono (by simp; omega)
        · exact ⟨g1, by simp; omega⟩
    · rename_i e _
      have hr := tl (Or.inl (by rw [e]; simp))
      exact (ins_fn hE false d r hr (by omega)).bd fun e ts1 g1 h1 => ⟨g1, by simp; omega⟩
    · rename_i e _
      have hr := tl (Or.inl (by rw [e]; simp))
      exact (ins_fn hE false d r hr (by omega)).bd fun e ts1 g1 h1 => ⟨g1, by simp; omega⟩
    · exact ins_fn hE fl d (t :: r) h (by simp; omega)
theorem un_fn (g : Nat) : ∀ (f : Nat) (fl : Bool) (d : Nat) (ts : List Tok), G ts → ts.length < n + 1 → ts.length ≤ g → ts.length ≤ f → Fn (ts.length - 1) (un E g f fl d ts) := by
  intro f
  induction f with
  | zero => intro fl d ts h hn hg hf; have := h.pos; omega
  | succ f ih =>
    intro fl d ts h hn hg hf
    match ts, h.ne, h with
    | t :: r, _, h =>
      simp only [un]
      split
      · refine (opn_fn [45] (by simp) fl d _ h).bd fun _ ts1 g1 h1 => ?_
        simp only [List.length_cons] at hn hg hf h1 ⊢
        exact (ih false (d + 1) ts1 g1 (by omega) (by omega) (by omega)).bd fun e ts2 g2 h2 => ⟨g2, by omega⟩
      · split
        · refine (opn_fn [33] (by simp) fl d _ h).bd fun _ ts1 g1 h1 => ?_
          simp only [List.length_cons] at hn hg hf h1 ⊢
          exact (ih false (d + 1) ts1 g1 (by omega) (by omega) (by omega)).bd fun e ts2 g2 h2 => ⟨g2, by omega⟩
        · exact pr_fn hE g fl d _ h hn hg
end
theorem op_ne {x : Bs} (h : (opOf x).2 ≠ 0) : x ≠ [] := by
  intro e
  subst e
  exact h (by decide)
theorem lp_fn (N : List Tok → Ou Ex) (lv : Nat) (h0 : lv ≠ 0) (n : Nat) (hN : ∀ ts, G ts → ts.length < n → Fn (ts.length - 1) (N ts)) : ∀ (f : Nat) (e : Ex) (ts : List Tok), G ts → ts.length < n + 1 → ts.length ≤ f → Fn ts.length (lp N lv f e ts) := by
  intro f
  induction f with
  | zero => intro e ts h hn hf; have := h.pos; omega
  | succ f ih =>
    intro e ts h hn hf
    match ts, h.ne, h with
    | t :: r, _, h =>
      simp only [lp]
      split
      · exact ⟨h, Nat.le_refl _⟩
      · rename_i e1
        have hr := h.tail (Or.inl (op_ne (by omega)))
        simp only [List.length_cons] at hn hf ⊢
        refine (hN r hr (by omega)).bd fun e2 ts1 g1 h1 => ?_
        split
        · exact ⟨g1, by omega⟩
        · exact (ih _ ts1 g1 (by omega) (by omega)).mono (by omega)
theorem two_fn {E : Bool → Nat → List Tok → Ou Ex} {n : Nat} (hE : FE E n) (g : Nat) (hng : n ≤ g) : ∀ (m : Nat), m ≤ 5 → ∀ (fl : Bool) (d : Nat) (ts : List Tok), G ts → ts.length < n + 1 → Fn (ts.length - 1) (two E g m fl d ts) := by
  intro m
  induction m with
  | zero => intro _ fl d ts h hn; simp only [two]; exact un_fn hE g g fl d ts h hn (by omega) (by omega)
  | succ m ih =>
    intro hm fl d ts h hn
    have p0 := h.pos
    simp only [two]
    refine (ih (by omega) fl d ts h hn).bd fun e ts1 g1 h1 => ?_
    exact (lp_fn (two E g m false d) (5 - m) (by omega) n (fun ts h hn' => ih (by omega) false d ts h (by omega)) g e ts1 g1 (by omega) (by omega)).mono h1
theorem expr_fn : ∀ (f : Nat), FE (expr f) f := by
  intro f
  induction f with
  | zero => intro fl d ts h hn; omega
  | succ f ih =>
    intro fl d ts h hn
    simp only [expr]
    exact two_fn ih (f + 1) (by omega) 5 (by omega) fl d ts h hn
/-- It reads what has fewer than n tokens. -/
def FB (B : Nat → List Tok → Ou Sts) (n : Nat) : Prop := ∀ d ts, G ts → ts.length < n → Fn (ts.length - 1) (B d ts)
section
variable {E : Nat → List Tok → Ou Ex} {n : Nat} (hE : ∀ d ts, G ts → ts.length < n → Fn (ts.length - 1) (E d ts))
include hE
theorem lone_fn (d : Nat) (ts : List Tok) (h : G ts) (hn : ts.length < n) : Fn (ts.length - 1) (lone E d ts) :=
  (hE d ts h hn).bd fun e ts1 g1 h1 => ⟨g1, h1⟩
omit hE in
theorem ended_fn (kind : Int) (nm : Bs) (e : Exs) (ts : List Tok) (h : G ts) : Fn (ts.length - 1) (ended kind nm e ts) :=
  (must_fn [59] (by simp) false ts h).bd fun _ ts1 g1 h1 => ⟨g1, h1⟩
theorem asg_fn (d : Nat) (kind : Int) (nm : Bs) (ts : List Tok) (h : G ts) (hn : ts.length < n + 1) : Fn (ts.length - 1) (asg E d kind nm ts) := by
  have p0 := h.pos
  exact (must_fn [61] (by simp) false ts h).bd fun _ ts1 g1 h1 => (lone_fn hE d ts1 g1 (by omega)).bd fun e ts2 g2 h2 => (ended_fn kind nm e ts2 g2).mono (by omega)
variable {C : Nat → Ex → List Tok → Ou Ex} (hC : ∀ d e ts, G ts → ts.length < n → Fn (ts.length - 1) (C d e ts))
include hC
theorem named_fn (d : Nat) (ts : List Tok) (h : G ts) (hn : ts.length < n + 1) : Fn (ts.length - 1) (named E C d ts) := by
  have p0 := h.pos
  refine (refr_fn false ts h).bd fun e ts1 g1 h1 => ?_
  match ts1, g1.ne, g1 with
  | u :: r, _, g1 =>
    simp only []
    split
    · exact (asg_fn hE d 2 e.1.name _ g1 (by omega)).mono (by omega)
    · exact (hC d e _ g1 (by omega)).bd fun c ts2 g2 h2 => (ended_fn 9 [] _ ts2 g2).mono (by omega)
variable {B : Nat → List Tok → Ou Sts} {k : Nat} (hB : FB B k)
include hB
omit hC in
theorem branch_fn (d : Nat) (ts : List Tok) (h : G ts) (hn : ts.length < n) (hk : ts.length < k + 1) : Fn (ts.length - 1) (branch E B d ts) := by
  have p0 := h.pos
  refine (lone_fn hE d ts h hn).bd fun e ts1 g1 h1 => (hB d ts1 g1 (by omega)).bd fun b ts2 g2 h2 => (has_fn [101, 108, 115, 101] (by simp) false ts2 g2).bd fun y ts3 g3 h3 => ?_
  split
  · exact (hB d ts3 g3 (by omega)).bd fun l ts4 g4 h4 => ⟨g4, by omega⟩
  · exact ⟨g3, by omega⟩
omit hC in
theorem while_fn (d : Nat) (ts : List Tok) (h : G ts) (hn : ts.length < n) (hk : ts.length < k + 1) : Fn (ts.length - 1) (while_ E B d ts) := by
  have p0 := h.pos
  exact (lone_fn hE d ts h hn).bd fun e ts1 g1 h1 => (hB d ts1 g1 (by omega)).bd fun b ts2 g2 h2 => ⟨g2, by omega⟩
omit hC hB in
theorem returned_fn (d : Nat) (ts : List Tok) (h : G ts) (hn : ts.length < n) : Fn (ts.length - 1) (returned E d ts) := by
  match ts, h.ne, h with
  | t :: r, _, h =>
    simp only [returned]
    split
    · exact ended_fn 5 [] .nil _ h
    · exact (lone_fn hE d _ h hn).bd fun e ts2 g2 h2 => (ended_fn 5 [] _ ts2 g2).mono (by omega)
omit hC hE in
theorem tried_fn (d : Nat) (ts : List Tok) (h : G ts) (hk : ts.length < k) : Fn (ts.length - 1) (tried B d ts) := by
  have p0 := h.pos
  exact (hB d ts h hk).bd fun b ts1 g1 h1 => (must_fn [99, 97, 116, 99, 104] (by simp) false ts1 g1).bd fun _ ts2 g2 h2 => (name_fn false ts2 g2).bd fun nm ts3 g3 h3 => (hB d ts3 g3 (by omega)).bd fun l ts4 g4 h4 => ⟨g4, by omega⟩
theorem stm_fn (d : Nat) (ts : List Tok) (h : G ts) (hn : ts.length < n + 1) (hk : ts.length < k + 1) : Fn (ts.length - 1) (stm E C B d ts) := by
  match ts, h.ne, h with
  | t :: r, _, h =>
    simp only [stm]
    have tl : t.x ≠ [] ∨ t.k ≠ 0 → G r := h.tail
    have lr : (t :: r).length = r.length + 1 := rfl
    repeat' split
    · exact named_fn hE hC d _ h hn
    · rename_i e
      have hr := tl (Or.inl (by rw [e]; simp))
      have p0 := hr.pos
      exact (name_fn false r hr).bd fun nm ts1 g1 h1 => (asg_fn hE d 1 nm ts1 g1 (by omega)).mono (by omega)
    · rename_i e
      have hr := tl (Or.inl (by rw [e]; simp))
      exact (branch_fn hE hB d r hr (by omega) (by omega)).mono (by omega)
    · rename_i e
      have hr := tl (Or.inl (by rw [e]; simp))
      exact (while_fn hE hB d r hr (by omega) (by omega)).mono (by omega)
    · rename_i e
      have hr := tl (Or.inl (by rw [e]; simp))
      exact (returned_fn hE d r hr (by omega)).mono (by omega)
    · rename_i e
      have hr := tl (Or.inl (by rw [e]; simp))
      exact (lone_fn hE d r hr (by omega)).bd fun e ts1 g1 h1 => (ended_fn 6 [] e ts1 g1).mono (by omega)
    · rename_i e
      have hr := tl (Or.inl (by rw [e]; simp))
      exact (lone_fn hE d r hr (by omega)).bd fun e ts1 g1 h1 => (ended_fn 7 [] e ts1 g1).mono (by omega)
    · rename_i e
      have hr := tl (Or.inl (by rw [e]; simp))
      exact (tried_fn hB d r hr (by omega)).mono (by omega)
    · exact trivial
end
theorem sts_fn (S : List Tok → Ou St) (n : Nat) (hS : ∀ ts, G ts → ts.length < n → Fn (ts.length - 1) (S ts)) : ∀ (g : Nat) (acc : Sts) (ts : List Tok), G ts → ts.length < n → ts.length ≤ g → Fn ts.length (sts S g acc ts) := by
  intro g
  induction g with
  | zero => intro acc ts h hn hg; have := h.pos; omega
  | succ g ih =>
    intro acc ts h hn hg
    match ts, h.ne, h with
    | t :: r, _, h =>
      simp only [sts]
      split
      · exact ⟨h, Nat.le_refl _⟩
      · exact (hS _ h hn).bd fun s ts1 g1 h1 => (ih _ ts1 g1 (by simp only [List.length_cons] at *; omega) (by simp only [List.length_cons] at *; omega)).mono (by omega)
theorem blk_fn {E : Nat → List Tok → Ou Ex} {C : Nat → Ex → List Tok → Ou Ex} {n g : Nat} (hng : n ≤ g + 1) (hE : ∀ d ts, G ts → ts.length < n → Fn (ts.length - 1) (E d ts)) (hC : ∀ d e ts, G ts → ts.length < n → Fn (ts.length - 1) (C d e ts)) :
    ∀ (f : Nat), f ≤ n → FB (blk E C g f) f := by
  intro f
  induction f with
  | zero => intro _ d ts h hf; omega
  | succ f ih =>
    intro hf d ts h hl
    have p0 := h.pos
    simp only [blk]
    refine (opn_fn [123] (by simp) false d ts h).bd fun _ ts1 g1 h1 => ?_
    have p1 := g1.pos
    refine (sts_fn _ f (fun ts g hl => stm_fn hE hC (ih (by omega)) (d + 1) ts g (by omega) (by omega)) g .nil ts1 g1 (by omega) (by omega)).bd fun l ts2 g2 h2 => (must_fn [125] (by simp) false ts2 g2).bd fun _ ts3 g3 h3 => ⟨g3, by omega⟩
theorem typ_fn (ts : List Tok) (h : G ts) : Fn (ts.length - 1) (typ ts) := by
  match ts, h.ne, h with
  | t :: r, _, h =>
    simp only [typ]
    repeat' split
    all_goals first
      | exact trivial
      | (rename_i e; exact ⟨h.tail (Or.inl (by rw [e]; simp)), by simp⟩)
theorem par1_fn (fl : Bool) (ts : List Tok) (h : G ts) : Fn (ts.length - 1) (par1 fl ts) :=
  (name_fn fl ts h).bd fun n ts1 g1 h1 => (must_fn [58] (by simp) false ts1 g1).bd fun _ ts2 g2 h2 => (typ_fn ts2 g2).bd fun t ts3 g3 h3 => ⟨g3, by omega⟩
theorem rwP_fn : ∀ (g : Nat) (acc : List Pa) (ts : List Tok), G ts → ts.length ≤ g → Fn ts.length (rwP g acc ts) := by
  intro g
  induction g with
  | zero => intro acc ts h hg; have := h.pos; omega
  | succ g ih =>
    intro acc ts h hg
    match ts, h.ne, h with
    | t :: r, _, h =>
      simp only [rwP]
      split
      · rename_i e
        have hr := h.tail (Or.inl (by rw [e]; simp))
        simp only [List.length_cons] at hg ⊢
        exact (par1_fn _ r hr).bd fun p ts1 g1 h1 => (ih _ ts1 g1 (by omega)).mono (by omega)
      · exact ⟨h, Nat.le_refl _⟩
theorem params_fn (g : Nat) (ts : List Tok) (h : G ts) (hg : ts.length ≤ g) : Fn ts.length (params g ts) := by
  match ts, h.ne, h with
  | t :: r, _, h =>
    simp only [params]
    split
    · exact ⟨h, Nat.le_refl _⟩
    · exact (par1_fn false _ h).bd fun p ts1 g1 h1 => (rwP_fn g [p] ts1 g1 (by omega)).mono (by omega)
theorem result_fn (ts : List Tok) (h : G ts) : Fn ts.length (result ts) := by
  refine (has_fn [58] (by simp) false ts h).bd fun y ts1 g1 h1 => ?_
  split
  · exact (typ_fn ts1 g1).mono (by omega)
  · exact ⟨g1, h1⟩
section
variable {E : Nat → List Tok → Ou Ex} {n : Nat} (hE : ∀ d ts, G ts → ts.length < n → Fn (ts.length - 1) (E d ts))
variable {B : Nat → List Tok → Ou Sts} (hB : FB B n) {g : Nat} (hng : n ≤ g + 1)
include hE in
theorem holder_fn (kind : Int) (ex : Bool) (ts : List Tok) (h : G ts) (hn : ts.length < n) : Fn (ts.length - 1) (holder E kind ex ts) := by
  have p0 := h.pos
  exact (name_fn false ts h).bd fun nm ts1 g1 h1 => (must_fn [58] (by simp) false ts1 g1).bd fun _ ts2 g2 h2 => (typ_fn ts2 g2).bd fun t ts3 g3 h3 => (must_fn [61] (by simp) false ts3 g3).bd fun _ ts4 g4 h4 => (lone_fn hE 0 ts4 g4 (by omega)).bd fun e ts5 g5 h5 =>
    (must_fn [59] (by simp) false ts5 g5).bd fun _ ts6 g6 h6 => ⟨g6, by omega⟩
include hB hng in
theorem fnc_fn (ex : Bool) (ts : List Tok) (h : G ts) (hn : ts.length < n) : Fn (ts.length - 1) (fnc B g ex ts) := by
  have p0 := h.pos
  exact (name_fn false ts h).bd fun nm ts1 g1 h1 => (must_fn [40] (by simp) false ts1 g1).bd fun _ ts2 g2 h2 => (params_fn g ts2 g2 (by omega)).bd fun ps ts3 g3 h3 => (must_fn [41] (by simp) false ts3 g3).bd fun _ ts4 g4 h4 => (result_fn ts4 g4).bd fun t ts5 g5 h5 =>
    (hB 0 ts5 g5 (by omega)).bd fun b ts6 g6 h6 => ⟨g6, by omega⟩
include hE hB hng
theorem dcl2_fn (ex fl : Bool) (ts : List Tok) (h : G ts) (hn : ts.length < n + 1) : Fn (ts.length - 1) (dcl2 E B g ex fl ts) := by
  match ts, h.ne, h with
  | t :: r, _, h =>
    simp only [dcl2]
    have lr : (t :: r).length = r.length + 1 := rfl
    repeat' split
    all_goals first
      | exact trivial
      | skip
    · rename_i e _
      exact (holder_fn hE 1 ex r (h.tail (Or.inl (by rw [e]; simp))) (by omega)).mono (by omega)
    · rename_i e _
      exact (holder_fn hE 2 ex r (h.tail (Or.inl (by rw [e.2]; simp))) (by omega)).mono (by omega)
    · rename_i e _
      exact (fnc_fn hB hng ex r (h.tail (Or.inl (by rw [e]; simp))) (by omega)).mono (by omega)
theorem dcl_fn (fl : Bool) (ts : List Tok) (h : G ts) (hn : ts.length < n + 1) : Fn (ts.length - 1) (dcl E B g fl ts) := by
  match ts, h.ne, h with
  | t :: r, _, h =>
    simp only [dcl]
    have lr : (t :: r).length = r.length + 1 := rfl
    repeat' split
    · exact trivial
    · rename_i e _
      exact (dcl2_fn hE hB hng true false r (h.tail (Or.inl (by rw [e]; simp))) (by omega)).mono (by omega)
    · exact dcl2_fn hE hB hng false fl _ h hn
theorem dcls_fn : ∀ (f : Nat) (acc : List De) (ts : List Tok), G ts → ts.length < n + 1 → ts.length ≤ f → Fn 1 (dcls E B g f acc ts) := by
  intro f
  induction f with
  | zero => intro acc ts h hn hg; have := h.pos; omega
  | succ f ih =>
    intro acc ts h hn hf
    match ts, h.ne, h with
    | [t], _, h => simp only [dcls]; exact ⟨h, by simp⟩
    | t :: u :: r, _, h =>
      simp only [dcls]
      have lr : (t :: u :: r).length = r.length + 2 := rfl
      exact (dcl_fn hE hB hng _ _ h hn).bd fun d ts1 g1 h1 => ih _ ts1 g1 (by omega) (by omega)
end
theorem imp1_fn (fl : Bool) (ts : List Tok) (h : G ts) : Fn (ts.length - 1) (imp1 fl ts) :=
  (must_fn _ (by simp) fl ts h).bd fun _ ts1 g1 h1 => (name_fn false ts1 g1).bd fun n ts2 g2 h2 => (must_fn [59] (by simp) false ts2 g2).bd fun _ ts3 g3 h3 => ⟨g3, by omega⟩
theorem imps_fn : ∀ (f : Nat) (acc : List Bs) (ts : List Tok), G ts → ts.length ≤ f → Fn ts.length (imps f acc ts) := by
  intro f
  induction f with
  | zero => intro acc ts h hg; have := h.pos; omega
  | succ f ih =>
    intro acc ts h hf
    match ts, h.ne, h with
    | t :: r, _, h =>
      simp only [imps]
      split
      · have lr : (t :: r).length = r.length + 1 := rfl
        exact (imp1_fn _ _ h).bd fun n ts1 g1 h1 => (ih _ ts1 g1 (by omega)).mono (by omega)
      · exact ⟨h, Nat.le_refl _⟩
theorem E0_fn (g : Nat) : ∀ d ts, G ts → ts.length < g → Fn (ts.length - 1) (E0 g d ts) := fun d ts h hn => expr_fn g false d ts h hn
theorem C0_fn (g : Nat) : ∀ d e ts, G ts → ts.length < g → Fn (ts.length - 1) (C0 g d e ts) := fun d e ts h hn => call_fn (expr_fn g) g d e ts h (by omega) (by omega)
theorem B0_fn (g : Nat) : FB (B0 g) g := blk_fn (n := g) (by omega) (E0_fn g) (C0_fn g) g (by omega)
theorem mdl_fn (g : Nat) (ts : List Tok) (h : G ts) (hn : ts.length < g) : Fn 1 (mdl g ts) := by
  have p0 := h.pos
  exact (must_fn _ (by simp) false ts h).bd fun _ ts1 g1 h1 => (name_fn false ts1 g1).bd fun n ts2 g2 h2 => (must_fn [59] (by simp) false ts2 g2).bd fun _ ts3 g3 h3 => (imps_fn g [] ts3 g3 (by omega)).bd fun is ts4 g4 h4 =>
    (dcls_fn (E0_fn g) (B0_fn g) (by omega) g [] ts4 g4 (by omega) (by omega)).bd fun ds ts5 g5 h5 => ⟨g5, h5⟩
theorem whole_fn {α : Type} {n : Nat} {m : Ou α} (h : Fn n m) : ∃ r, whole m = some r := by
  match m, h with
  | some (.er p c), _ => exact ⟨_, rfl⟩
  | some (.ok a [t]), _ => exact ⟨_, rfl⟩
  | some (.ok a (t :: u :: r)), _ => exact ⟨_, rfl⟩
  | some (.ok a []), ⟨h, _⟩ => exact absurd rfl h.ne
theorem parT_some (ts : List Tok) (n : Nat) (h : ∀ t ∈ ts, t.x ≠ []) : ∃ r, parT ts n = some r :=
  whole_fn (mdl_fn _ _ ⟨ts, n, rfl, h⟩ (by simp))
theorem xprT_some (ts : List Tok) (n : Nat) (h : ∀ t ∈ ts, t.x ≠ []) : ∃ r, xprT ts n = some r :=
  whole_fn (expr_fn _ false 0 _ ⟨ts, n, rfl, h⟩ (by simp))
end Pz
end Go.Proofs.YtpkaekokkhecmaaGreatDoor
