/- Plain: what is read is right: expressions. -/
import Derived.Test.YteijjaabngkbjaaGreatDoorPsN
import Derived.Test.YteijjaabngkbjaaGreatDoorTrF
namespace Go.Proofs.YteijjaabngkbjaaGreatDoor
set_option linter.unusedSimpArgs false
set_option linter.unusedVariables false
namespace Pz
open Lx Te
open Go.RowKit (wrap64)

/-- What is read holds P, and what is left holds A. -/
def Rg {α : Type} (A : Tok → Prop) (P : α → Prop) : Ou α → Prop
  | some (.ok a ts) => P a ∧ ∀ t ∈ ts, A t
  | _ => True
theorem Rg.er {α : Type} {A : Tok → Prop} {P : α → Prop} (p : Nat) (c : Int) : Rg A P (some (.er p c)) := trivial
theorem Rg.no {α : Type} {A : Tok → Prop} {P : α → Prop} : Rg A P none := trivial
theorem Rg.ok {α : Type} {A : Tok → Prop} {P : α → Prop} {a : α} {ts : List Tok} (h : P a) (ht : ∀ t ∈ ts, A t) : Rg A P (some (.ok a ts)) := ⟨h, ht⟩
theorem Rg.bd {α β : Type} {A : Tok → Prop} {P : α → Prop} {Q : β → Prop} {m : Ou α} {k : α → List Tok → Ou β} (h : Rg A P m) (hk : ∀ a ts, P a → (∀ t ∈ ts, A t) → Rg A Q (k a ts)) : Rg A Q (bd m k) := by
  rcases m with _ | ⟨a, ts⟩ | ⟨p, c⟩
  · trivial
  · exact hk a ts h.1 h.2
  · trivial
theorem Rg.mono {α : Type} {A : Tok → Prop} {P Q : α → Prop} {m : Ou α} (h : Rg A P m) (hk : ∀ a, P a → Q a) : Rg A Q m := by
  rcases m with _ | ⟨a, ts⟩ | ⟨p, c⟩
  · trivial
  · exact ⟨hk a h.1, h.2⟩
  · trivial
theorem Rg.ite {α : Type} {A : Tok → Prop} {P : α → Prop} {c : Prop} [Decidable c] {a b : Ou α} (h1 : c → Rg A P a) (h2 : ¬ c → Rg A P b) : Rg A P (if c then a else b) := by
  split
  · exact h1 ‹_›
  · exact h2 ‹_›
theorem tl {A : Tok → Prop} {t : Tok} {r : List Tok} (h : ∀ x ∈ t :: r, A x) : A t ∧ ∀ x ∈ r, A x := ⟨h t (by simp), fun x hx => h x (by simp [hx])⟩

section
variable (rn : Bs → Int) (cn : Int → Int)
/-- A token of a text. -/
def TokR (t : Tok) : Prop := (t.k = 1 → rn t.x = 0) ∧ (t.k = 3 ∨ t.k = 4 → litOk cn t.ty t.b = true ∧ 0 ≤ t.b)
/-- An expression that stands at a level and a depth. -/
def QX (L : Int) (d : Nat) (e : Ex) : Prop := RX rn cn e.1 e.2 ∧ 0 ≤ e.1.vb ∧ NnX e.2 ∧ dX e.1 e.2 L (d : Int) ≤ 32
/-- Each of a row. -/
def AlX (d : Nat) : Exs → Prop
  | .nil => True
  | .cons h k r => QX rn cn 1 d (h, k) ∧ AlX d r
end
variable {rn : Bs → Int} {cn : Int → Int}
theorem must_rg (A : Tok → Prop) (s : Bs) (fl : Bool) (ts : List Tok) (h : ∀ t ∈ ts, A t) : Rg A (fun _ => fl = false) (must s fl ts) := by
  cases ts with
  | nil => trivial
  | cons t r =>
    unfold must
    refine Rg.ite (fun _ => Rg.ite (fun _ => trivial) (fun hf => Rg.ok (by simpa using hf) (tl h).2)) (fun _ => trivial)
theorem has_rg (A : Tok → Prop) (s : Bs) (fl : Bool) (ts : List Tok) (h : ∀ t ∈ ts, A t) : Rg A (fun _ => True) (has s fl ts) := by
  cases ts with
  | nil => trivial
  | cons t r =>
    unfold has
    refine Rg.ite (fun _ => Rg.ite (fun _ => trivial) (fun _ => Rg.ok trivial (tl h).2)) (fun _ => Rg.ok trivial h)
theorem name_rg (fl : Bool) (ts : List Tok) (h : ∀ t ∈ ts, TokR rn cn t) : Rg (TokR rn cn) (fun n => fl = false ∧ rn n = 0) (name fl ts) := by
  cases ts with
  | nil => trivial
  | cons t r =>
    unfold name
    refine Rg.ite (fun hk => Rg.ite (fun _ => trivial) (fun hf => Rg.ok ⟨by simpa using hf, (tl h).1.1 hk⟩ (tl h).2)) (fun _ => trivial)
theorem opn_rg (A : Tok → Prop) (s : Bs) (fl : Bool) (d : Nat) (ts : List Tok) (h : ∀ t ∈ ts, A t) : Rg A (fun _ => fl = false ∧ d ≠ 32) (opn s fl d ts) := by
  cases ts with
  | nil => trivial
  | cons t r =>
    unfold opn
    refine Rg.ite (fun hk => Rg.ite (fun _ => trivial) (fun hd => Rg.ite (fun _ => trivial) (fun hf => Rg.ok ⟨by simpa using hf, hd⟩ (tl h).2))) (fun _ => trivial)

/- Depths. -/
theorem dX_less {h : EH} {k : Exs} {L L' : Int} {a : Nat} (ha : a ≤ 32) (hl : L' ≤ L) (H : dX h k L (a : Int) ≤ 32) : dX h k L' (a : Int) ≤ 32 := by
  unfold dX inAt at *
  by_cases h1 : level h < L'
  · rw [if_pos h1]
    rw [if_pos (by omega)] at H
    exact H
  · rw [if_neg h1]
    split at H
    · rw [wrap_sm (by omega) (by omega)] at H
      have hb := dK_acc h k true ((a : Int) + 1) ((a : Int) + 1)
      apply Classical.byContradiction
      intro hn
      exact absurd (Te.dK_deep k h true (a : Int) ((a : Int) + 1) (a : Int) ((a : Int) + 1) (by omega) (by omega) (by omega) (by omega) (by omega) (by omega)) (by omega)
    · exact H
theorem dX_ins {h : EH} {k : Exs} (L : Int) {a : Nat} (ha : a + 1 ≤ 32) (H : dX h k 1 ((a + 1 : Nat) : Int) ≤ 32) : dX h k L (a : Int) ≤ 32 := by
  have hl : ¬ level h < 1 := by
    have : 1 ≤ level h := by
      unfold level lv2
      repeat' split
      all_goals omega
    omega
  have H1 := dX_no H hl
  unfold dB at H1
  unfold dX inAt
  split
  · rw [wrap_sm (by omega) (by omega)]
    simpa using H1
  · apply Classical.byContradiction
    intro hn
    exact absurd (Te.dK_deep k h true (a : Int) ((a : Int) + 1) (a : Int) ((a : Int) + 1) (by omega) (by omega) (by omega) (by omega) (by omega) (by omega)) (by simpa using H1)
theorem dX_leaf {h : EH} {L : Int} {a : Nat} (ha : a ≤ 32) (hl : ¬ level h < L) : dX h .nil L (a : Int) ≤ 32 := by
  unfold dX inAt
  rw [if_neg hl, dK]
  omega
theorem dK_put {p h : EH} {k r : Exs} {first : Bool} {a : Nat} {acc : Int} (ha : a ≤ 32) (hp : (a : Int) + kidD p ≤ 32) (H : dX h k (kidL p first) ((a : Int) + kidD p) ≤ 32) (hacc : acc ≤ 32) (hr : ∀ acc', acc' ≤ 32 → dK p r false (a : Int) acc' ≤ 32) : dK p (.cons h k r) first (a : Int) acc ≤ 32 := by
  rw [dK]
  have hk := kidD_r p
  apply hr
  rw [wrap_sm (by omega) (by omega)]
  unfold dX at H
  omega
theorem alx_dep {p : EH} (hp : p.kind = 4 ∨ p.kind = 5) {d : Nat} (hd : d + 1 ≤ 32) : ∀ (k : Exs) (first : Bool) (acc : Int), AlX rn cn (d + 1) k → acc ≤ 32 → dK p k first (d : Int) acc ≤ 32
  | .nil, _, acc, _, h => h
  | .cons h k r, first, acc, hA, hacc => by
    have e1 : kidD p = 1 := by unfold kidD; rw [if_pos hp]
    have e2 : kidL p first = 1 := by
      unfold kidL
      rw [if_neg (by omega), if_neg (by omega)]
    refine dK_put (by omega) (by omega) ?_ hacc (fun acc' h' => alx_dep hp hd r false acc' hA.2 h')
    rw [e1, e2]
    have := hA.1.2.2.2
    simpa using this
theorem alx_err {d : Nat} : ∀ (k : Exs), AlX rn cn d k → errL rn cn k = 0 ∧ NnX k
  | .nil, _ => ⟨rfl, trivial⟩
  | .cons h k r, ⟨⟨h1, h2, h3, _⟩, h5⟩ => by
    obtain ⟨i1, i2⟩ := alx_err r h5
    refine ⟨?_, h2, h3, i2⟩
    rw [errL, h1.1, h1.2, i1]
    rfl
theorem alx_app {d : Nat} {e : Ex} (he : QX rn cn 1 d e) : ∀ (k : Exs), AlX rn cn d k → AlX rn cn d (k.app (.cons e.1 e.2 .nil))
  | .nil, _ => ⟨he, trivial⟩
  | .cons h k r, ⟨h1, h2⟩ => ⟨h1, alx_app he r h2⟩

/- Expressions. -/
theorem qx_lit {t b : Int} (h : litOk cn t b = true) (h0 : 0 ≤ b) {L : Int} (hL : L ≤ 7) {d : Nat} (hd : d ≤ 32) : QX rn cn L d (lit t b) := by
  refine ⟨⟨?_, rfl⟩, h0, trivial, dX_leaf hd (by simp [lit, level]; omega)⟩
  simp [lit, errH, fitsE, nameE, orE, h, Exs.len]
theorem qx_input {L : Int} (hL : L ≤ 7) {d : Nat} (hd : d ≤ 32) : QX rn cn L d (⟨8, 0, [], [], 0, 0⟩, .nil) := by
  refine ⟨⟨?_, rfl⟩, by decide, trivial, dX_leaf hd (by simp [level]; omega)⟩
  simp [errH, fitsE, nameE, orE, Exs.len]
theorem qx_one {op : Int} (ho : op = 1 ∨ op = 2) {e : Ex} {d : Nat} (hd : d + 1 ≤ 32) (he : QX rn cn 6 (d + 1) e) {L : Int} (hL : L ≤ 6) : QX rn cn L d (one op e) := by
  obtain ⟨h1, h2, h3, h4⟩ := he
  refine ⟨⟨?_, ?_⟩, by simp [one], ⟨h2, h3, trivial⟩, ?_⟩
  · rcases ho with rfl | rfl <;> simp [one, errH, fitsE, nameE, orE, Exs.len]
  · simp only [one, errL]; rw [h1.1, h1.2]; rfl
  · apply dX_of
    · unfold dB
      refine dK_put (by omega) ?_ ?_ (by omega) (fun acc' h' => by rw [dK]; exact h')
      · rcases ho with rfl | rfl <;> simp [one, kidD] <;> omega
      · have e1 : kidD (one op e).1 = 1 := by rcases ho with rfl | rfl <;> simp [one, kidD]
        have e2 : kidL (one op e).1 true = 6 := by rcases ho with rfl | rfl <;> simp [one, kidL]
        rw [e1, e2]
        simpa using h4
    · rcases ho with rfl | rfl <;> simp [one, level] <;> omega
theorem qx_conv {op : Int} (ho : op = 3 ∨ op = 4) {e : Ex} {d : Nat} (hd : d + 1 ≤ 32) (he : QX rn cn 1 (d + 1) e) {L : Int} (hL : L ≤ 7) : QX rn cn L d (one op e) := by
  obtain ⟨h1, h2, h3, h4⟩ := he
  refine ⟨⟨?_, ?_⟩, by simp [one], ⟨h2, h3, trivial⟩, ?_⟩
  · rcases ho with rfl | rfl <;> simp [one, errH, fitsE, nameE, orE, Exs.len]
  · simp only [one, errL]; rw [h1.1, h1.2]; rfl
  · apply dX_of
    · unfold dB
      refine dK_put (by omega) ?_ ?_ (by omega) (fun acc' h' => by rw [dK]; exact h')
      · rcases ho with rfl | rfl <;> simp [one, kidD] <;> omega
      · have e1 : kidD (one op e).1 = 1 := by rcases ho with rfl | rfl <;> simp [one, kidD]
        have e2 : kidL (one op e).1 true = 1 := by rcases ho with rfl | rfl <;> simp [one, kidL]
        rw [e1, e2]
        simpa using h4
    · rcases ho with rfl | rfl <;> simp [one, level] <;> omega
theorem qx_bin {op : Int} (h1 : 1 ≤ op) (h2 : op ≤ 13) {e e2 : Ex} {d : Nat} (hd : d ≤ 32) (he : QX rn cn (side (lv2 op) true) d e) (he2 : QX rn cn (lv2 op + 1) d e2) (h7 : lv2 op ≤ 5) : QX rn cn (lv2 op) d (bin op e e2) := by
  obtain ⟨a1, a2, a3, a4⟩ := he
  obtain ⟨b1, b2, b3, b4⟩ := he2
  refine ⟨⟨?_, ?_⟩, by simp [bin], ⟨a2, a3, b2, b3, trivial⟩, ?_⟩
  · simp [bin, errH, fitsE, nameE, orE, Exs.len, h1, h2]
  · simp only [bin, errL]; rw [a1.1, a1.2, b1.1, b1.2]; rfl
  · have e1 : kidD (bin op e e2).1 = 0 := by simp [bin, kidD]
    have e3 : kidL (bin op e e2).1 true = side (lv2 op) true := by simp [bin, kidL]
    have e4 : kidL (bin op e e2).1 false = lv2 op + 1 := by simp [bin, kidL, side]; omega
    apply dX_of
    · unfold dB
      refine dK_put (by omega) (by rw [e1]; omega) (by rw [e1, e3]; simpa using a4) (by omega) (fun acc' h' => ?_)
      exact dK_put (by omega) (by rw [e1]; omega) (by rw [e1, e4]; simpa using b4) h' (fun acc' h' => by rw [dK]; exact h')
    · simp [bin, level]
theorem qx_less {e : Ex} {L L' : Int} {d : Nat} (hd : d ≤ 32) (hl : L' ≤ L) (h : QX rn cn L d e) : QX rn cn L' d e := ⟨h.1, h.2.1, h.2.2.1, dX_less hd hl h.2.2.2⟩
theorem qx_ins {e : Ex} (L : Int) {d : Nat} (hd : d + 1 ≤ 32) (h : QX rn cn 1 (d + 1) e) : QX rn cn L d e := ⟨h.1, h.2.1, h.2.2.1, dX_ins L hd h.2.2.2⟩
/-- A name by itself. -/
def NmE (rn : Bs → Int) (e : Ex) : Prop := (∃ n, rn n = 0 ∧ e = (⟨2, 0, [], n, 0, 0⟩, .nil)) ∨ ∃ n m, rn n = 0 ∧ rn m = 0 ∧ e = (⟨3, 0, n, m, 0, 0⟩, .nil)
theorem refr_rg (fl : Bool) (ts : List Tok) (h : ∀ t ∈ ts, TokR rn cn t) : Rg (TokR rn cn) (fun e => fl = false ∧ NmE rn e) (refr fl ts) := by
  unfold refr
  refine (name_rg fl ts h).bd fun n ts hn h => (has_rg _ _ _ _ h).bd fun b ts _ h => Rg.ite (fun _ => ?_) (fun _ => Rg.ok ⟨hn.1, Or.inl ⟨n, hn.2, rfl⟩⟩ h)
  exact (name_rg false ts h).bd fun m ts hm h => Rg.ok ⟨hn.1, Or.inr ⟨n, m, hn.2, hm.2, rfl⟩⟩ h
theorem qx_nm {e : Ex} (h : NmE rn e) {L : Int} (hL : L ≤ 7) {d : Nat} (hd : d ≤ 32) : QX rn cn L d e := by
  rcases h with ⟨n, hn, rfl⟩ | ⟨n, m, hn, hm, rfl⟩
  · refine ⟨⟨?_, rfl⟩, Int.le_refl 0, trivial, dX_leaf hd (by simp [level]; omega)⟩
    simp [errH, fitsE, nameE, orE, Exs.len, hn]
  · refine ⟨⟨?_, rfl⟩, Int.le_refl 0, trivial, dX_leaf hd (by simp [level]; omega)⟩
    simp [errH, fitsE, nameE, orE, Exs.len, hn, hm]
section
variable {E : Bool → Nat → List Tok → Ou Ex}
def RE (rn : Bs → Int) (cn : Int → Int) (E : Bool → Nat → List Tok → Ou Ex) : Prop := ∀ fl d ts, d ≤ 32 → (∀ t ∈ ts, TokR rn cn t) → Rg (TokR rn cn) (fun e => fl = false ∧ QX rn cn 1 d e) (E fl d ts)
theorem ins_rg (hE : RE rn cn E) (fl : Bool) (d : Nat) (ts : List Tok) (hd : d ≤ 32) (h : ∀ t ∈ ts, TokR rn cn t) : Rg (TokR rn cn) (fun e => fl = false ∧ d + 1 ≤ 32 ∧ QX rn cn 1 (d + 1) e) (ins E fl d ts) := by
  unfold ins
  refine (opn_rg _ _ _ _ _ h).bd fun _ ts hd1 h => ?_
  have hd2 : d + 1 ≤ 32 := by omega
  exact (hE false (d + 1) ts hd2 h).bd fun e ts he h => (must_rg _ _ _ _ h).bd fun _ ts _ h => Rg.ok ⟨hd1.1, hd2, he.2⟩ h
theorem rwE_rg (hE : RE rn cn E) (d : Nat) (hd : d ≤ 32) : ∀ (g : Nat) (acc : Exs) (ts : List Tok), AlX rn cn d acc → acc.len ≤ 8 → (∀ t ∈ ts, TokR rn cn t) → Rg (TokR rn cn) (fun l => AlX rn cn d l ∧ l.len ≤ 8) (rwE E d g acc ts) := by
  intro g
  induction g with
  | zero => intro acc ts _ _ _; trivial
  | succ g ih =>
    intro acc ts ha hl h
    cases ts with
    | nil => trivial
    | cons t r =>
      unfold rwE
      refine Rg.ite (fun _ => ?_) (fun _ => Rg.ok ⟨ha, hl⟩ h)
      refine (hE _ d r hd (tl h).2).bd fun e ts he h => ih _ ts (alx_app he.2 acc ha) ?_ h
      have := he.1
      rw [beq_eq_false_iff_ne] at this
      rw [Exs.app_len]; simp only [Exs.len]; omega
theorem args_rg (hE : RE rn cn E) (g d : Nat) (ts : List Tok) (hd : d ≤ 32) (h : ∀ t ∈ ts, TokR rn cn t) : Rg (TokR rn cn) (fun l => l = .nil ∨ (d + 1 ≤ 32 ∧ AlX rn cn (d + 1) l ∧ l.len ≤ 8)) (args E g d ts) := by
  unfold args
  split
  · rename_i t u r
    refine Rg.ite (fun _ => Rg.ok (Or.inl rfl) (tl (tl h).2).2) (fun _ => ?_)
    refine (opn_rg _ _ _ _ _ h).bd fun _ ts hd1 h => ?_
    have hd2 : d + 1 ≤ 32 := by omega
    refine (hE false (d + 1) ts hd2 h).bd fun e ts he h => (rwE_rg hE (d + 1) hd2 g (.cons e.1 e.2 .nil) ts ⟨he.2, trivial⟩ (by simp [Exs.len]) h).bd fun l ts hl h => (must_rg _ _ _ _ h).bd fun _ ts _ h => Rg.ok (Or.inr ⟨hd2, hl⟩) h
  · exact Rg.ite (fun _ => trivial) (fun _ => trivial)
  · trivial
theorem call_rg (hE : RE rn cn E) (g d : Nat) (e : Ex) (he : NmE rn e) (ts : List Tok) (hd : d ≤ 32) (h : ∀ t ∈ ts, TokR rn cn t) : Rg (TokR rn cn) (fun c => (c.1.kind = 4 ∨ c.1.kind = 5) ∧ QX rn cn 7 d c) (call E g d e ts) := by
  unfold call
  refine (args_rg hE g d ts hd h).bd fun l ts hl h => Rg.ok ?_ h
  have hk : (callH e.1).kind = 4 ∨ (callH e.1).kind = 5 := by
    rcases he with ⟨n, _, rfl⟩ | ⟨n, m, _, _, rfl⟩ <;> simp [callH]
  have h0 : (callH e.1).vb = 0 := by rcases he with ⟨n, _, rfl⟩ | ⟨n, m, _, _, rfl⟩ <;> simp [callH]
  have hlen : l.len ≤ 8 := by
    rcases hl with rfl | hl
    · simp [Exs.len]
    · exact hl.2.2
  have hH : errH rn cn (callH e.1) l.len = 0 := by
    rcases he with ⟨n, hn, rfl⟩ | ⟨n, m, hn, hm, rfl⟩
    · simp [callH, errH, fitsE, nameE, orE, hn]; omega
    · simp [callH, errH, fitsE, nameE, orE, hn, hm]; omega
  have hlv : ¬ level (callH e.1) < 7 := by
    unfold level
    rw [if_neg (by omega), if_neg (by omega)]
    omega
  rcases hl with rfl | ⟨hd2, hA, _⟩
  · exact ⟨hk, ⟨hH, rfl⟩, by show 0 ≤ (callH e.1).vb; omega, trivial, dX_leaf hd hlv⟩
  · obtain ⟨i1, i2⟩ := alx_err l hA
    exact ⟨hk, ⟨hH, i1⟩, by show 0 ≤ (callH e.1).vb; omega, i2, dX_of (alx_dep hk hd2 l true d hA (by omega)) hlv⟩
theorem pr_rg (hc1 : cn 9218868437227405312 = 9218868437227405312) (hc2 : cn 9221120237041090561 = 9221120237041090561) (hE : RE rn cn E) (g : Nat) (fl : Bool) (d : Nat) (ts : List Tok) (hd : d ≤ 32) (h : ∀ t ∈ ts, TokR rn cn t) : Rg (TokR rn cn) (fun e => fl = false ∧ QX rn cn 6 d e) (pr E g fl d ts) := by
  unfold pr
  split
  · trivial
  rename_i t r
  obtain ⟨ht, hr⟩ := tl h
  have lf : ∀ {x : Ex} {c : Prop}, QX rn cn 6 d x → Rg (TokR rn cn) (fun e => fl = false ∧ QX rn cn 6 d e) (if fl then some (.er t.p 3) else some (.ok x r)) :=
    fun hx => Rg.ite (fun _ => trivial) (fun hf => Rg.ok ⟨by simpa using hf, hx⟩ hr)
  refine Rg.ite (fun hk => lf (c := True) (qx_lit (ht.2 hk).1 (ht.2 hk).2 (by omega) hd)) (fun _ => ?_)
  refine Rg.ite (fun hk => ?_) (fun _ => ?_)
  · refine (refr_rg fl _ h).bd fun e ts he h => ?_
    cases ts with
    | nil => trivial
    | cons u r' =>
      refine Rg.ite (fun _ => (call_rg hE g d e he.2 _ hd h).mono fun c hc => ⟨he.1, qx_less hd (by omega) hc.2⟩) (fun _ => Rg.ok ⟨he.1, qx_nm he.2 (by omega) hd⟩ h)
  refine Rg.ite (fun _ => lf (c := True) (qx_lit (by simp [litOk]) (by omega) (by omega) hd)) (fun _ => ?_)
  refine Rg.ite (fun _ => lf (c := True) (qx_lit (by simp [litOk]) (by omega) (by omega) hd)) (fun _ => ?_)
  refine Rg.ite (fun _ => lf (c := True) (qx_lit (by simp [litOk, hc1]) (by omega) (by omega) hd)) (fun _ => ?_)
  refine Rg.ite (fun _ => lf (c := True) (qx_lit (by simp [litOk, hc2]) (by omega) (by omega) hd)) (fun _ => ?_)
  refine Rg.ite (fun _ => lf (c := True) (qx_input (by omega) hd)) (fun _ => ?_)
  refine Rg.ite (fun _ => Rg.ite (fun _ => trivial) (fun hf => (ins_rg hE false d r hd hr).bd fun e ts he h => Rg.ok ⟨by simpa using hf, qx_conv (Or.inl rfl) he.2.1 he.2.2 (by omega)⟩ h)) (fun _ => ?_)
  refine Rg.ite (fun _ => Rg.ite (fun _ => trivial) (fun hf => (ins_rg hE false d r hd hr).bd fun e ts he h => Rg.ok ⟨by simpa using hf, qx_conv (Or.inr rfl) he.2.1 he.2.2 (by omega)⟩ h)) (fun _ => ?_)
  exact (ins_rg hE fl d _ hd h).mono fun e he => ⟨he.1, qx_ins 6 he.2.1 he.2.2⟩
theorem un_rg (hc1 : cn 9218868437227405312 = 9218868437227405312) (hc2 : cn 9221120237041090561 = 9221120237041090561) (hE : RE rn cn E) (g : Nat) : ∀ (f : Nat) (fl : Bool) (d : Nat) (ts : List Tok), d ≤ 32 → (∀ t ∈ ts, TokR rn cn t) → Rg (TokR rn cn) (fun e => fl = false ∧ QX rn cn 6 d e) (un E g f fl d ts) := by
  intro f
  induction f with
  | zero => intro fl d ts _ _; trivial
  | succ f ih =>
    intro fl d ts hd h
    cases ts with
    | nil => trivial
    | cons t r =>
      unfold un
      refine Rg.ite (fun _ => (opn_rg _ _ _ _ _ h).bd fun _ ts h1 h => (ih false (d + 1) ts (by omega) h).bd fun e ts he h => Rg.ok ⟨h1.1, qx_one (Or.inl rfl) (by omega) he.2 (by omega)⟩ h) (fun _ => ?_)
      exact Rg.ite (fun _ => (opn_rg _ _ _ _ _ h).bd fun _ ts h1 h => (ih false (d + 1) ts (by omega) h).bd fun e ts he h => Rg.ok ⟨h1.1, qx_one (Or.inr rfl) (by omega) he.2 (by omega)⟩ h) (fun _ => pr_rg hc1 hc2 hE g fl d _ hd h)
end
theorem opOf_lv (x : Bs) (h : (opOf x).2 ≠ 0) : 1 ≤ (opOf x).1 ∧ (opOf x).1 ≤ 13 ∧ lv2 (opOf x).1 = ((opOf x).2 : Int) ∧ (opOf x).2 ≤ 5 := by
  by_cases e0 : x = [124, 124]
  · subst e0; exact ⟨by decide, by decide, by decide, by decide⟩
  by_cases e1 : x = [38, 38]
  · subst e1; exact ⟨by decide, by decide, by decide, by decide⟩
  by_cases e2 : x = [61, 61]
  · subst e2; exact ⟨by decide, by decide, by decide, by decide⟩
  by_cases e3 : x = [33, 61]
  · subst e3; exact ⟨by decide, by decide, by decide, by decide⟩
  by_cases e4 : x = [60]
  · subst e4; exact ⟨by decide, by decide, by decide, by decide⟩
  by_cases e5 : x = [60, 61]
  · subst e5; exact ⟨by decide, by decide, by decide, by decide⟩
  by_cases e6 : x = [62]
  · subst e6; exact ⟨by decide, by decide, by decide, by decide⟩
  by_cases e7 : x = [62, 61]
  · subst e7; exact ⟨by decide, by decide, by decide, by decide⟩
  by_cases e8 : x = [43]
  · subst e8; exact ⟨by decide, by decide, by decide, by decide⟩
  by_cases e9 : x = [45]
  · subst e9; exact ⟨by decide, by decide, by decide, by decide⟩
  by_cases e10 : x = [42]
  · subst e10; exact ⟨by decide, by decide, by decide, by decide⟩
  by_cases e11 : x = [47]
  · subst e11; exact ⟨by decide, by decide, by decide, by decide⟩
  by_cases e12 : x = [37]
  · subst e12; exact ⟨by decide, by decide, by decide, by decide⟩
  exfalso
  apply h
  unfold opOf
  rw [if_neg e0, if_neg e1, if_neg e2, if_neg e3, if_neg e4, if_neg e5, if_neg e6, if_neg e7, if_neg e8, if_neg e9, if_neg e10, if_neg e11, if_neg e12]
theorem lp_rg {N : List Tok → Ou Ex} {lv d : Nat} (h1 : 1 ≤ lv) (h5 : lv ≤ 5) (hd : d ≤ 32) (hN : ∀ ts, (∀ t ∈ ts, TokR rn cn t) → Rg (TokR rn cn) (QX rn cn ((lv : Int) + 1) d) (N ts)) : ∀ (f : Nat) (e : Ex) (ts : List Tok), QX rn cn (side (lv : Int) true) d e → (∀ t ∈ ts, TokR rn cn t) → Rg (TokR rn cn) (QX rn cn (lv : Int) d) (lp N lv f e ts) := by
  intro f
  induction f with
  | zero => intro e ts _ _; trivial
  | succ f ih =>
    intro e ts he h
    cases ts with
    | nil => trivial
    | cons t r =>
      have hs : (lv : Int) ≤ side (lv : Int) true := by unfold side; split <;> (try split) <;> omega
      unfold lp
      refine Rg.ite (fun _ => Rg.ok (qx_less hd hs he) h) (fun hop => ?_)
      have hop : (opOf t.x).2 = lv := by simpa using hop
      obtain ⟨o1, o2, o3, o4⟩ := opOf_lv t.x (by omega)
      refine (hN r (tl h).2).bd fun e2 ts he2 h => ?_
      have hb : QX rn cn (lv : Int) d (bin (opOf t.x).1 e e2) := by
        have hl : lv2 (opOf t.x).1 = (lv : Int) := by rw [o3, hop]
        have := qx_bin (rn := rn) (cn := cn) o1 o2 hd (e := e) (e2 := e2) (by rw [hl]; exact he) (by rw [hl]; exact he2) (by omega)
        rw [hl] at this
        exact this
      refine Rg.ite (fun _ => Rg.ok hb h) (fun h3 => ih _ ts ?_ h)
      have : side (lv : Int) true = (lv : Int) := by unfold side; rw [if_neg (by omega), if_neg (by simp; omega)]
      rw [this]
      exact hb
theorem two_rg {E : Bool → Nat → List Tok → Ou Ex} (hc1 : cn 9218868437227405312 = 9218868437227405312) (hc2 : cn 9221120237041090561 = 9221120237041090561) (hE : RE rn cn E) (g : Nat) : ∀ (n : Nat), n ≤ 5 → ∀ (fl : Bool) (d : Nat) (ts : List Tok), d ≤ 32 → (∀ t ∈ ts, TokR rn cn t) → Rg (TokR rn cn) (fun e => fl = false ∧ QX rn cn (6 - (n : Int)) d e) (two E g n fl d ts) := by
  intro n
  induction n with
  | zero => intro _ fl d ts hd h; exact un_rg hc1 hc2 hE g g fl d ts hd h
  | succ n ih =>
    intro hn fl d ts hd h
    unfold two
    refine (ih (by omega) fl d ts hd h).bd fun e ts he h => ?_
    have e1 : ((5 - n : Nat) : Int) + 1 = 6 - (n : Int) := by omega
    have e2 : ((5 - n : Nat) : Int) = 6 - ((n + 1 : Nat) : Int) := by omega
    have hp := lp_rg (rn := rn) (cn := cn) (N := two E g n false d) (lv := 5 - n) (d := d) (by omega) (by omega) hd (fun ts h => (ih (by omega) false d ts hd h).mono fun e he => by rw [e1]; exact he.2) g e ts (qx_less hd (by unfold side; split <;> (try split) <;> omega) he.2) h
    exact hp.mono fun e2' he2 => ⟨he.1, by rw [← e2]; exact he2⟩
theorem expr_rg (hc1 : cn 9218868437227405312 = 9218868437227405312) (hc2 : cn 9221120237041090561 = 9221120237041090561) : ∀ (f : Nat), RE rn cn (expr f)
  | 0 => fun _ _ _ _ _ => trivial
  | f + 1 => fun fl d ts hd h => two_rg hc1 hc2 (expr_rg hc1 hc2 f) (f + 1) 5 (Nat.le_refl _) fl d ts hd h
end Pz
end Go.Proofs.YteijjaabngkbjaaGreatDoor
