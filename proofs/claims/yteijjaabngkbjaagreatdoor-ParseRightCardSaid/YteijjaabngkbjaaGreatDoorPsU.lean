/- Plain: what is read is right: statements, declarations, a module. -/
import Derived.Test.YteijjaabngkbjaaGreatDoorPsR
namespace Go.Proofs.YteijjaabngkbjaaGreatDoor
set_option linter.unusedSimpArgs false
set_option linter.unusedVariables false
namespace Pz
open Lx Te
open Go.RowKit (wrap64)

section
variable (rn : Bs → Int) (cn : Int → Int)
/-- Statements in a row at a depth. -/
def QS (d : Nat) (s : Sts) : Prop := errS rn cn s = 0 ∧ NnS s ∧ ∀ a : Int, a ≤ 32 → dS s (d : Int) a ≤ 32
/-- A block that stands at a depth. -/
def QB (d : Nat) (s : Sts) : Prop := errS rn cn s = 0 ∧ NnS s ∧ dS s ((d : Int) + 1) ((d : Int) + 1) ≤ 32
def QL (d : Nat) (e : Exs) : Prop := e.len = 1 ∧ errL rn cn e = 0 ∧ NnX e ∧ dL e (d : Int) (d : Int) ≤ 32
/-- One statement at a depth. -/
def QT (d : Nat) (s : St) : Prop := QS rn cn d (.cons s.1 s.2.1 s.2.2.1 s.2.2.2 .nil)
end
variable {rn : Bs → Int} {cn : Int → Int}
theorem errS_app : ∀ (x y : Sts), errS rn cn x = 0 → errS rn cn y = 0 → errS rn cn (x.app y) = 0
  | .nil, y, _, h => h
  | .cons h e b l r, y, hx, hy => by
    rw [errS] at hx
    obtain ⟨h1, h2⟩ := orE_0 hx
    rw [Sts.app, errS, h1, errS_app r y h2 hy]
    rfl
theorem nnS_app : ∀ (x y : Sts), NnS x → NnS y → NnS (x.app y)
  | .nil, y, _, h => h
  | .cons h e b l r, y, ⟨h1, h2, h3, h4⟩, hy => ⟨h1, h2, h3, nnS_app r y h4 hy⟩
theorem dS_app : ∀ (x y : Sts) (a acc : Int), dS (x.app y) a acc = dS y a (dS x a acc)
  | .nil, y, _, _ => rfl
  | .cons h e b l r, y, a, acc => by
    rw [Sts.app, dS, dS]
    exact dS_app r y a _
theorem qs_app {d : Nat} {x y : Sts} (hx : QS rn cn d x) (hy : QS rn cn d y) : QS rn cn d (x.app y) :=
  ⟨errS_app x y hx.1 hy.1, nnS_app x y hx.2.1 hy.2.1, fun a ha => by rw [dS_app]; exact hy.2.2 _ (hx.2.2 a ha)⟩
theorem qs_nil {d : Nat} : QS rn cn d .nil := ⟨rfl, trivial, fun a h => h⟩
theorem ql_of {d : Nat} (hd : d ≤ 32) {e : Ex} (h : QX rn cn 1 d e) : QL rn cn d (.cons e.1 e.2 .nil) := by
  obtain ⟨h1, h2, h3, h4⟩ := h
  refine ⟨rfl, ?_, ⟨h2, h3, trivial⟩, ?_⟩
  · rw [errL, h1.1, h1.2]; rfl
  · rw [dL, dL]; omega
theorem qt_of {d : Nat} (hd : d ≤ 32) {h : SH} {e : Exs} {b l : Sts} (hH : errSH rn h e b.len l.len = 0) (he1 : errL rn cn e = 0) (he2 : NnX e) (he3 : dL e (d : Int) (d : Int) ≤ 32)
    (hb : b = .nil ∧ hasBody h.kind = false ∨ QB rn cn d b) (hl : l = .nil ∧ h.kind ≠ 8 ∨ QB rn cn d l) : QT rn cn d (h, e, b, l) := by
  have b1 : errS rn cn b = 0 ∧ NnS b := by
    rcases hb with ⟨rfl, _⟩ | hb
    · exact ⟨rfl, trivial⟩
    · exact ⟨hb.1, hb.2.1⟩
  have l1 : errS rn cn l = 0 ∧ NnS l := by
    rcases hl with ⟨rfl, _⟩ | hl
    · exact ⟨rfl, trivial⟩
    · exact ⟨hl.1, hl.2.1⟩
  refine ⟨?_, ⟨he2, b1.2, l1.2, trivial⟩, fun a ha => ?_⟩
  · rw [errS, hH, he1, b1.1, l1.1]; rfl
  · have e2 : ∀ x : Int, x ≤ 32 → (if hasBody h.kind || decide (0 < b.len) then max x (dS b ((d : Int) + 1) ((d : Int) + 1)) else x) ≤ 32 := by
      intro x hx
      split
      · rcases hb with ⟨rfl, h0⟩ | hb
        · rename_i hc; simp [h0, Sts.len] at hc
        · have := hb.2.2; omega
      · exact hx
    have e3 : ∀ x : Int, x ≤ 32 → (if h.kind = 8 ∨ 0 < l.len then max x (dS l ((d : Int) + 1) ((d : Int) + 1)) else x) ≤ 32 := by
      intro x hx
      split
      · rcases hl with ⟨rfl, h0⟩ | hl
        · rename_i hc; simp [h0, Sts.len] at hc
        · have := hl.2.2; omega
      · exact hx
    rw [dS, dS, wrap_sm (by omega) (by omega)]
    have := e3 _ (e2 _ he3)
    simp only
    exact Int.max_le.2 ⟨ha, this⟩
section
variable {E : Nat → List Tok → Ou Ex} {C : Nat → Ex → List Tok → Ou Ex} {B : Nat → List Tok → Ou Sts}
def RE0 (rn : Bs → Int) (cn : Int → Int) (E : Nat → List Tok → Ou Ex) : Prop := ∀ d ts, d ≤ 32 → (∀ t ∈ ts, TokR rn cn t) → Rg (TokR rn cn) (QX rn cn 1 d) (E d ts)
def RC0 (rn : Bs → Int) (cn : Int → Int) (C : Nat → Ex → List Tok → Ou Ex) : Prop := ∀ d e ts, d ≤ 32 → NmE rn e → (∀ t ∈ ts, TokR rn cn t) → Rg (TokR rn cn) (fun c => (c.1.kind = 4 ∨ c.1.kind = 5) ∧ QX rn cn 7 d c) (C d e ts)
def RB0 (rn : Bs → Int) (cn : Int → Int) (B : Nat → List Tok → Ou Sts) : Prop := ∀ d ts, d ≤ 32 → (∀ t ∈ ts, TokR rn cn t) → Rg (TokR rn cn) (QB rn cn d) (B d ts)
theorem lone_rg (hE : RE0 rn cn E) (d : Nat) (ts : List Tok) (hd : d ≤ 32) (h : ∀ t ∈ ts, TokR rn cn t) : Rg (TokR rn cn) (QL rn cn d) (lone E d ts) :=
  (hE d ts hd h).bd fun e ts he h => Rg.ok (ql_of hd he) h
theorem ended_rg (P : St → Prop) (kind : Int) (n : Bs) (e : Exs) (ts : List Tok) (hP : P (⟨kind, n⟩, e, .nil, .nil)) (h : ∀ t ∈ ts, TokR rn cn t) : Rg (TokR rn cn) P (ended kind n e ts) :=
  (must_rg _ _ _ _ h).bd fun _ ts _ h => Rg.ok hP h
theorem asg_rg (hE : RE0 rn cn E) (d : Nat) (kind : Int) (hk : kind = 1 ∨ kind = 2) (n : Bs) (hn : rn n = 0) (ts : List Tok) (hd : d ≤ 32) (h : ∀ t ∈ ts, TokR rn cn t) : Rg (TokR rn cn) (QT rn cn d) (asg E d kind n ts) := by
  unfold asg
  refine (must_rg _ _ _ _ h).bd fun _ ts _ h => (lone_rg hE d ts hd h).bd fun e ts he h => ended_rg _ kind n e ts ?_ h
  refine qt_of hd ?_ he.2.1 he.2.2.1 he.2.2.2 (Or.inl ⟨rfl, ?_⟩) (Or.inl ⟨rfl, ?_⟩)
  · rcases hk with rfl | rfl <;> simp [errSH, fitsS, nameS, orE, he.1, hn, Sts.len]
  · rcases hk with rfl | rfl <;> rfl
  · rcases hk with rfl | rfl <;> simp
theorem named_rg (hE : RE0 rn cn E) (hC : RC0 rn cn C) (d : Nat) (ts : List Tok) (hd : d ≤ 32) (h : ∀ t ∈ ts, TokR rn cn t) : Rg (TokR rn cn) (QT rn cn d) (named E C d ts) := by
  unfold named
  refine (refr_rg false ts h).bd fun e ts he h => ?_
  cases ts with
  | nil => trivial
  | cons u r =>
    refine Rg.ite (fun hc => ?_) (fun _ => ?_)
    · rcases he.2 with ⟨n, hn, rfl⟩ | ⟨n, m, _, _, rfl⟩
      · exact asg_rg hE d 2 (Or.inr rfl) n hn _ hd h
      · exact absurd hc.1 (by show ¬ (3 : Int) = 2; decide)
    · refine (hC d e _ hd he.2 h).bd fun c ts hc h => ended_rg _ 9 [] _ ts ?_ h
      have hq := ql_of hd (qx_less hd (by omega) hc.2)
      refine qt_of hd ?_ hq.2.1 hq.2.2.1 hq.2.2.2 (Or.inl ⟨rfl, rfl⟩) (Or.inl ⟨rfl, by decide⟩)
      simp [errSH, fitsS, nameS, orE, Exs.len, Exs.kind0, hc.1, Sts.len]
theorem branch_rg (hE : RE0 rn cn E) (hB : RB0 rn cn B) (d : Nat) (ts : List Tok) (hd : d ≤ 32) (h : ∀ t ∈ ts, TokR rn cn t) : Rg (TokR rn cn) (QT rn cn d) (branch E B d ts) := by
  unfold branch
  refine (lone_rg hE d ts hd h).bd fun e ts he h => (hB d ts hd h).bd fun b ts hb h => (has_rg _ _ _ _ h).bd fun y ts _ h => Rg.ite (fun _ => ?_) (fun _ => Rg.ok ?_ h)
  · refine (hB d ts hd h).bd fun l ts hl h => Rg.ok ?_ h
    refine qt_of hd ?_ he.2.1 he.2.2.1 he.2.2.2 (Or.inr hb) (Or.inr hl)
    simp [errSH, fitsS, nameS, orE, he.1]
  · refine qt_of hd ?_ he.2.1 he.2.2.1 he.2.2.2 (Or.inr hb) (Or.inl ⟨rfl, by decide⟩)
    simp [errSH, fitsS, nameS, orE, he.1]
theorem while_rg (hE : RE0 rn cn E) (hB : RB0 rn cn B) (d : Nat) (ts : List Tok) (hd : d ≤ 32) (h : ∀ t ∈ ts, TokR rn cn t) : Rg (TokR rn cn) (QT rn cn d) (while_ E B d ts) := by
  unfold while_
  refine (lone_rg hE d ts hd h).bd fun e ts he h => (hB d ts hd h).bd fun b ts hb h => Rg.ok ?_ h
  refine qt_of hd ?_ he.2.1 he.2.2.1 he.2.2.2 (Or.inr hb) (Or.inl ⟨rfl, by decide⟩)
  simp [errSH, fitsS, nameS, orE, he.1, Sts.len]
theorem returned_rg (hE : RE0 rn cn E) (d : Nat) (ts : List Tok) (hd : d ≤ 32) (h : ∀ t ∈ ts, TokR rn cn t) : Rg (TokR rn cn) (QT rn cn d) (returned E d ts) := by
  unfold returned
  split
  · trivial
  refine Rg.ite (fun _ => ended_rg _ 5 [] _ _ ?_ h) (fun _ => ?_)
  · refine qt_of hd ?_ rfl trivial (by rw [dL]; omega) (Or.inl ⟨rfl, rfl⟩) (Or.inl ⟨rfl, by decide⟩)
    simp [errSH, fitsS, nameS, orE, Exs.len, Sts.len]
  · refine (lone_rg hE d _ hd h).bd fun e ts he h => ended_rg _ 5 [] e ts ?_ h
    refine qt_of hd ?_ he.2.1 he.2.2.1 he.2.2.2 (Or.inl ⟨rfl, rfl⟩) (Or.inl ⟨rfl, by decide⟩)
    simp [errSH, fitsS, nameS, orE, he.1, Sts.len]
theorem tried_rg (hB : RB0 rn cn B) (d : Nat) (ts : List Tok) (hd : d ≤ 32) (h : ∀ t ∈ ts, TokR rn cn t) : Rg (TokR rn cn) (QT rn cn d) (tried B d ts) := by
  unfold tried
  refine (hB d ts hd h).bd fun b ts hb h => (must_rg _ _ _ _ h).bd fun _ ts _ h => (name_rg false ts h).bd fun n ts hn h => (hB d ts hd h).bd fun l ts hl h => Rg.ok ?_ h
  refine qt_of hd ?_ rfl trivial (by rw [dL]; omega) (Or.inr hb) (Or.inr hl)
  simp [errSH, fitsS, nameS, orE, Exs.len, hn.2]
theorem shown_rg (hE : RE0 rn cn E) (kind : Int) (hk : kind = 6 ∨ kind = 7) (d : Nat) (ts : List Tok) (hd : d ≤ 32) (h : ∀ t ∈ ts, TokR rn cn t) : Rg (TokR rn cn) (QT rn cn d) (bd (lone E d ts) fun e ts => ended kind [] e ts) := by
  refine (lone_rg hE d ts hd h).bd fun e ts he h => ended_rg _ kind [] e ts ?_ h
  refine qt_of hd ?_ he.2.1 he.2.2.1 he.2.2.2 (Or.inl ⟨rfl, ?_⟩) (Or.inl ⟨rfl, ?_⟩)
  · rcases hk with rfl | rfl <;> simp [errSH, fitsS, nameS, orE, he.1, Sts.len]
  · rcases hk with rfl | rfl <;> rfl
  · rcases hk with rfl | rfl <;> decide
theorem stm_rg (hE : RE0 rn cn E) (hC : RC0 rn cn C) (hB : RB0 rn cn B) (d : Nat) (ts : List Tok) (hd : d ≤ 32) (h : ∀ t ∈ ts, TokR rn cn t) : Rg (TokR rn cn) (QT rn cn d) (stm E C B d ts) := by
  unfold stm
  split
  · trivial
  obtain ⟨ht, hr⟩ := tl h
  refine Rg.ite (fun _ => named_rg hE hC d _ hd h) (fun _ => ?_)
  refine Rg.ite (fun _ => (name_rg false _ hr).bd fun n ts hn h => asg_rg hE d 1 (Or.inl rfl) n hn.2 ts hd h) (fun _ => ?_)
  refine Rg.ite (fun _ => branch_rg hE hB d _ hd hr) (fun _ => ?_)
  refine Rg.ite (fun _ => while_rg hE hB d _ hd hr) (fun _ => ?_)
  refine Rg.ite (fun _ => returned_rg hE d _ hd hr) (fun _ => ?_)
  refine Rg.ite (fun _ => shown_rg hE 6 (Or.inl rfl) d _ hd hr) (fun _ => ?_)
  refine Rg.ite (fun _ => shown_rg hE 7 (Or.inr rfl) d _ hd hr) (fun _ => ?_)
  exact Rg.ite (fun _ => tried_rg hB d _ hd hr) (fun _ => trivial)
end
theorem sts_rg {S : List Tok → Ou St} {d : Nat} (hS : ∀ ts, (∀ t ∈ ts, TokR rn cn t) → Rg (TokR rn cn) (QT rn cn d) (S ts)) : ∀ (g : Nat) (acc : Sts) (ts : List Tok), QS rn cn d acc → (∀ t ∈ ts, TokR rn cn t) → Rg (TokR rn cn) (QS rn cn d) (sts S g acc ts) := by
  intro g
  induction g with
  | zero => intro acc ts _ _; trivial
  | succ g ih =>
    intro acc ts ha h
    cases ts with
    | nil => trivial
    | cons t r =>
      unfold sts
      exact Rg.ite (fun _ => Rg.ok ha h) (fun _ => (hS _ h).bd fun s ts hs h => ih _ ts (qs_app ha hs) h)
theorem blk_rg {E : Nat → List Tok → Ou Ex} {C : Nat → Ex → List Tok → Ou Ex} (hE : RE0 rn cn E) (hC : RC0 rn cn C) (g : Nat) : ∀ f, RB0 rn cn (blk E C g f) := by
  intro f
  induction f with
  | zero => intro d ts _ _; trivial
  | succ f ih =>
    intro d ts hd h
    unfold blk
    refine (opn_rg _ _ _ _ _ h).bd fun _ ts h1 h => (sts_rg (fun ts h => stm_rg hE hC ih (d + 1) ts (by omega) h) g .nil ts qs_nil h).bd fun l ts hl h => (must_rg _ _ _ _ h).bd fun _ ts _ h => Rg.ok ⟨hl.1, hl.2.1, ?_⟩ h
    have := hl.2.2 ((d : Int) + 1) (by omega)
    simpa using this

/- Declarations. -/
theorem typ_rg (A : Tok → Prop) (ts : List Tok) (h : ∀ t ∈ ts, A t) : Rg A (fun t => isTy t = true) (typ ts) := by
  unfold typ
  split
  · trivial
  obtain ⟨_, hr⟩ := tl h
  exact Rg.ite (fun _ => Rg.ok rfl hr) (fun _ => Rg.ite (fun _ => Rg.ok rfl hr) (fun _ => Rg.ite (fun _ => Rg.ok rfl hr) (fun _ => trivial)))
def PaR (rn : Bs → Int) (p : Pa) : Prop := rn p.name = 0 ∧ isTy p.type = true
theorem par1_rg (fl : Bool) (ts : List Tok) (h : ∀ t ∈ ts, TokR rn cn t) : Rg (TokR rn cn) (fun p => fl = false ∧ PaR rn p) (par1 fl ts) := by
  unfold par1
  exact (name_rg fl ts h).bd fun n ts hn h => (must_rg _ _ _ _ h).bd fun _ ts _ h => (typ_rg _ _ h).bd fun t ts ht h => Rg.ok ⟨hn.1, hn.2, ht⟩ h
theorem rwP_rg : ∀ (g : Nat) (acc : List Pa) (ts : List Tok), (∀ p ∈ acc, PaR rn p) → acc.length ≤ 8 → (∀ t ∈ ts, TokR rn cn t) → Rg (TokR rn cn) (fun l => (∀ p ∈ l, PaR rn p) ∧ l.length ≤ 8) (rwP g acc ts) := by
  intro g
  induction g with
  | zero => intro acc ts _ _ _; trivial
  | succ g ih =>
    intro acc ts ha hl h
    cases ts with
    | nil => trivial
    | cons t r =>
      unfold rwP
      refine Rg.ite (fun _ => ?_) (fun _ => Rg.ok ⟨ha, hl⟩ h)
      refine (par1_rg _ r (tl h).2).bd fun p ts hp h => ih _ ts ?_ ?_ h
      · intro q hq
        rcases List.mem_append.1 hq with hq | hq
        · exact ha q hq
        · rw [List.mem_singleton.1 hq]; exact hp.2
      · have := hp.1
        rw [beq_eq_false_iff_ne] at this
        rw [List.length_append]; simp only [List.length_singleton]; omega
theorem errP_oR : ∀ (l : List Pa), (∀ p ∈ l, PaR rn p) → errP rn l = 0
  | [], _ => rfl
  | p :: r, h => by
    have h1 := h p (by simp)
    rw [errP, h1.1, h1.2, errP_oR r (fun q hq => h q (by simp [hq]))]
    rfl
def QD (rn : Bs → Int) (cn : Int → Int) (d : De) : Prop := errD rn cn d = 0 ∧ NnD d
section
variable {E : Nat → List Tok → Ou Ex} {B : Nat → List Tok → Ou Sts}
theorem holder_rg (hE : RE0 rn cn E) (kind : Int) (ex : Bool) (hk : kind = 1 ∨ kind = 2 ∧ ex = false) (ts : List Tok) (h : ∀ t ∈ ts, TokR rn cn t) : Rg (TokR rn cn) (QD rn cn) (holder E kind ex ts) := by
  unfold holder
  refine (name_rg false ts h).bd fun n ts hn h => (must_rg _ _ _ _ h).bd fun _ ts _ h => (typ_rg _ _ h).bd fun t ts ht h => (must_rg _ _ _ _ h).bd fun _ ts _ h => (lone_rg hE 0 ts (by omega) h).bd fun e ts he h => (must_rg _ _ _ _ h).bd fun _ ts _ h => Rg.ok ⟨?_, he.2.2.1, trivial⟩ h
  obtain ⟨h1, h2, h3, h4⟩ := he
  have hdd : dD ⟨kind, ex, n, t, [], e, .nil⟩ ≤ 32 := by
    have hk3 : ¬ (kind = 3 ∨ 0 < Sts.nil.len) := by simp [Sts.len]; omega
    unfold dD
    simp only
    rw [if_neg hk3]
    exact h4
  unfold errD
  rw [if_neg (by omega)]
  rcases hk with rfl | ⟨rfl, rfl⟩ <;> simp [fitsD, ht, h1, h2, hn.2, orE, errP, errS, Sts.len]
theorem params_rg (g : Nat) (ts : List Tok) (h : ∀ t ∈ ts, TokR rn cn t) : Rg (TokR rn cn) (fun l => (∀ p ∈ l, PaR rn p) ∧ l.length ≤ 8) (params g ts) := by
  unfold params
  split
  · trivial
  exact Rg.ite (fun _ => Rg.ok ⟨by simp, by simp⟩ h) (fun _ => (par1_rg false _ h).bd fun p ts hp h => rwP_rg g [p] ts (by simpa using hp.2) (by simp) h)
theorem result_rg (A : Tok → Prop) (ts : List Tok) (h : ∀ t ∈ ts, A t) : Rg A (fun t => t = 0 ∨ isTy t = true) (result ts) := by
  unfold result
  exact (has_rg _ _ _ _ h).bd fun y ts _ h => Rg.ite (fun _ => (typ_rg _ _ h).mono fun t ht => Or.inr ht) (fun _ => Rg.ok (Or.inl rfl) h)
theorem fnc_rg (hB : RB0 rn cn B) (g : Nat) (ex : Bool) (ts : List Tok) (h : ∀ t ∈ ts, TokR rn cn t) : Rg (TokR rn cn) (QD rn cn) (fnc B g ex ts) := by
  unfold fnc
  refine (name_rg false ts h).bd fun n ts hn h => (must_rg _ _ _ _ h).bd fun _ ts _ h => (params_rg g ts h).bd fun ps ts hps h => (must_rg _ _ _ _ h).bd fun _ ts _ h => (result_rg _ _ h).bd fun t ts ht h => (hB 0 ts (by omega) h).bd fun b ts hb h => Rg.ok ⟨?_, trivial, hb.2.1⟩ h
  have hdd : dD ⟨3, ex, n, t, ps, .nil, b⟩ ≤ 32 := by
    have := hb.2.2
    have h1 : dS b 1 1 ≤ 32 := by simpa using this
    simp only [dD, dL, true_or, if_true]
    omega
  have h8 : ¬ 8 < ps.length := by have := hps.2; omega
  unfold errD
  rw [if_neg (by omega)]
  have e1 := errP_oR ps hps.1
  have e2 := hb.1
  have e3 : (t == 0 || isTy t) = true := by rcases ht with rfl | ht <;> simp [*]
  simp [fitsD, e3, hn.2, orE, h8, e1, e2, errL, Exs.len]
theorem dcl2_rg (hE : RE0 rn cn E) (hB : RB0 rn cn B) (g : Nat) (ex fl : Bool) (ts : List Tok) (h : ∀ t ∈ ts, TokR rn cn t) : Rg (TokR rn cn) (fun d => fl = false ∧ QD rn cn d) (dcl2 E B g ex fl ts) := by
  unfold dcl2
  split
  · trivial
  obtain ⟨_, hr⟩ := tl h
  refine Rg.ite (fun _ => Rg.ite (fun _ => trivial) (fun hf => (holder_rg hE 1 ex (Or.inl rfl) _ hr).mono fun d hd => ⟨by simpa using hf, hd⟩)) (fun _ => ?_)
  refine Rg.ite (fun hc => Rg.ite (fun _ => trivial) (fun hf => (holder_rg hE 2 ex (Or.inr ⟨rfl, hc.1⟩) _ hr).mono fun d hd => ⟨by simpa using hf, hd⟩)) (fun _ => ?_)
  exact Rg.ite (fun _ => Rg.ite (fun _ => trivial) (fun hf => (fnc_rg hB g ex _ hr).mono fun d hd => ⟨by simpa using hf, hd⟩)) (fun _ => trivial)
theorem dcl_rg (hE : RE0 rn cn E) (hB : RB0 rn cn B) (g : Nat) (fl : Bool) (ts : List Tok) (h : ∀ t ∈ ts, TokR rn cn t) : Rg (TokR rn cn) (fun d => fl = false ∧ QD rn cn d) (dcl E B g fl ts) := by
  unfold dcl
  split
  · trivial
  exact Rg.ite (fun _ => Rg.ite (fun _ => trivial) (fun hf => (dcl2_rg hE hB g true false _ (tl h).2).mono fun d hd => ⟨by simpa using hf, hd.2⟩)) (fun _ => dcl2_rg hE hB g false fl _ h)
theorem dcls_rg (hE : RE0 rn cn E) (hB : RB0 rn cn B) (g : Nat) : ∀ (f : Nat) (acc : List De) (ts : List Tok), (∀ d ∈ acc, QD rn cn d) → acc.length ≤ 64 → (∀ t ∈ ts, TokR rn cn t) → Rg (TokR rn cn) (fun l => (∀ d ∈ l, QD rn cn d) ∧ l.length ≤ 64) (dcls E B g f acc ts) := by
  intro f
  induction f with
  | zero => intro acc ts _ _ _; trivial
  | succ f ih =>
    intro acc ts ha hl h
    match ts, h with
    | [], _ => trivial
    | [t], h => exact Rg.ok (P := fun l : List De => (∀ d ∈ l, QD rn cn d) ∧ l.length ≤ 64) ⟨ha, hl⟩ h
    | t :: u :: r, h =>
      unfold dcls
      refine (dcl_rg hE hB g _ _ h).bd fun d ts hp h => ih _ ts ?_ ?_ h
      · intro q hq
        rcases List.mem_append.1 hq with hq | hq
        · exact ha q hq
        · rw [List.mem_singleton.1 hq]; exact hp.2
      · have := hp.1
        rw [beq_eq_false_iff_ne] at this
        rw [List.length_append]; simp only [List.length_singleton]; omega
end
theorem imp1_rg (fl : Bool) (ts : List Tok) (h : ∀ t ∈ ts, TokR rn cn t) : Rg (TokR rn cn) (fun n => fl = false ∧ rn n = 0) (imp1 fl ts) := by
  unfold imp1
  exact (must_rg _ _ _ _ h).bd fun _ ts hf h => (name_rg false ts h).bd fun n ts hn h => (must_rg _ _ _ _ h).bd fun _ ts _ h => Rg.ok ⟨hf, hn.2⟩ h
theorem imps_rg : ∀ (f : Nat) (acc : List Bs) (ts : List Tok), (∀ x ∈ acc, rn x = 0) → acc.length ≤ 16 → (∀ t ∈ ts, TokR rn cn t) → Rg (TokR rn cn) (fun l => (∀ x ∈ l, rn x = 0) ∧ l.length ≤ 16) (imps f acc ts) := by
  intro f
  induction f with
  | zero => intro acc ts _ _ _; trivial
  | succ f ih =>
    intro acc ts ha hl h
    cases ts with
    | nil => trivial
    | cons t r =>
      unfold imps
      refine Rg.ite (fun _ => ?_) (fun _ => Rg.ok ⟨ha, hl⟩ h)
      refine (imp1_rg _ _ h).bd fun p ts hp h => ih _ ts ?_ ?_ h
      · intro q hq
        rcases List.mem_append.1 hq with hq | hq
        · exact ha q hq
        · rw [List.mem_singleton.1 hq]; exact hp.2
      · have := hp.1
        rw [beq_eq_false_iff_ne] at this
        rw [List.length_append]; simp only [List.length_singleton]; omega
theorem errI_oR : ∀ (l : List Bs), (∀ x ∈ l, rn x = 0) → errI rn l = 0
  | [], _ => rfl
  | x :: r, h => by
    rw [errI, h x (by simp), errI_oR r (fun q hq => h q (by simp [hq]))]
    rfl
theorem errDs_oR : ∀ (l : List De), (∀ d ∈ l, QD rn cn d) → errDs rn cn l = 0
  | [], _ => rfl
  | x :: r, h => by
    rw [errDs, (h x (by simp)).1, errDs_oR r (fun q hq => h q (by simp [hq]))]
    rfl
/-- What is read is right. -/
theorem parT_right (hc1 : cn 9218868437227405312 = 9218868437227405312) (hc2 : cn 9221120237041090561 = 9221120237041090561) (ts : List Tok) (n : Nat) (m : Mo) (p : Nat) (c : Int) (hA : ∀ t ∈ ts, TokR rn cn t) (h : parT ts n = some (some m, p, c)) :
    errM rn cn m = 0 ∧ ∀ d ∈ m.decls, NnD d := by
  have hE := expr_rg (rn := rn) hc1 hc2 (ts.length + 2)
  have hE0 : RE0 rn cn (E0 (ts.length + 2)) := fun d ts' hd h => (hE false d ts' hd h).mono fun e he => he.2
  have hC0 : RC0 rn cn (C0 (ts.length + 2)) := fun d e ts' hd he h => call_rg hE (ts.length + 2) d e he ts' hd h
  have hB0 : RB0 rn cn (B0 (ts.length + 2)) := fun d ts' hd h => blk_rg hE0 hC0 _ _ d ts' hd h
  have hA' : ∀ t ∈ ts ++ [endT n], TokR rn cn t := by
    intro t ht
    rcases List.mem_append.1 ht with ht | ht
    · exact hA t ht
    · rw [List.mem_singleton.1 ht]
      exact ⟨fun h => absurd h (by simp [endT]), fun h => absurd h (by simp [endT])⟩
  have hm : Rg (TokR rn cn) (fun m : Mo => errM rn cn m = 0 ∧ ∀ d ∈ m.decls, NnD d) (mdl (ts.length + 2) (ts ++ [endT n])) := by
    unfold mdl
    refine (must_rg _ _ _ _ hA').bd fun _ ts _ h => (name_rg false ts h).bd fun x ts hx h => (must_rg _ _ _ _ h).bd fun _ ts _ h => (imps_rg _ [] ts (by simp) (by simp) h).bd fun is ts his h => (dcls_rg hE0 hB0 _ _ [] ts (by simp) (by simp) h).bd fun ds ts hds h => Rg.ok ⟨?_, fun d hd => (hds.1 d hd).2⟩ h
    have h1 : ¬ 16 < is.length := by have := his.2; omega
    have h2 : ¬ 64 < ds.length := by have := hds.2; omega
    simp [errM, hx.2, orE, h1, h2, errI_oR is his.1, errDs_oR ds hds.1]
  unfold parT whole at h
  split at h
  · cases h
  · cases h
  · rename_i a t heq
    rw [heq] at hm
    simp only [Option.some.injEq, Prod.mk.injEq] at h
    rw [← h.1]
    exact hm.1
  · cases h
  · cases h
end Pz
end Go.Proofs.YteijjaabngkbjaaGreatDoor
