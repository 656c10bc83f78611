/- PsS PsF PsB PsE PsJ PsM PsT PsN PsV PsW PwA PwB PwR PwC Shelf3 TrX6 -/
import Derived.Test.YteijjaabngkbjaaGreatDoorLxAll
import Derived.Test.YteijjaabngkbjaaGreatDoorTrX4B
import Derived.Maps.AppendAt
import Derived.Shelf.Strings.Builder1
import Derived.Shelf.Strings.Builder2
import Derived.Shelf.Strings.OnBuilder
import Derived.Shelf.Small.Bits
import Derived.Shelf.Small.Strs
import Derived.Shelf.Small.Wraps
import Derived.Shelf.Strconv.Itoa0
import Derived.Shelf.Strconv.Itoa1
import Derived.Shelf.LaysM
import Derived.Shelf.Strconv.Itoa2
import Derived.Shelf.Strconv.Itoa3
import Derived.Shelf.Strconv.Itoa4
import Derived.Shelf.Strings.Search1
import Derived.Shelf.Strings.Search2
import Derived.Shelf.Strings.Prefix
import Derived.Shelf.Bits.Mul64
import Derived.Test.YteijjaabngkbjaaGreatDoorProg
import Derived.Test.YteijjaabngkbjaaGreatDoorIyAB
import Derived.Test.YteijjaabngkbjaaGreatDoorTrLAll
namespace Go.Proofs.YteijjaabngkbjaaGreatDoor
set_option linter.unusedSimpArgs false
set_option linter.unusedVariables false
namespace Te
def Exs.app : Exs → Exs → Exs
  | .nil, y => y
  | .cons h k r, y => .cons h k (r.app y)
def Sts.app : Sts → Sts → Sts
  | .nil, y => y
  | .cons h e b l r, y => .cons h e b l (r.app y)
end Te
namespace Pz
open Lx Te
inductive Rs (α : Type) where
  | ok (a : α) (ts : List Tok)
  | er (p : Nat) (c : Int)
abbrev Ou (α : Type) := Option (Rs α)
def bd {α β : Type} (m : Ou α) (k : α → List Tok → Ou β) : Ou β :=
  match m with
  | none => none
  | some (.er p c) => some (.er p c)
  | some (.ok a ts) => k a ts
@[simp] theorem bd_none {α β : Type} (k : α → List Tok → Ou β) : bd (none : Ou α) k = none := rfl
@[simp] theorem bd_er {α β : Type} (p : Nat) (c : Int) (k : α → List Tok → Ou β) : bd (some (.er p c) : Ou α) k = some (.er p c) := rfl
@[simp] theorem bd_ok {α β : Type} (a : α) (ts : List Tok) (k : α → List Tok → Ou β) : bd (some (.ok a ts)) k = k a ts := rfl
abbrev Ex := EH × Exs
def must (s : Bs) (fl : Bool) : List Tok → Ou Unit
  | [] => none
  | t :: r => if t.x = s then (if fl then some (.er t.p 3) else some (.ok () r)) else some (.er t.p 11)
def opn (s : Bs) (fl : Bool) (d : Nat) : List Tok → Ou Unit
  | [] => none
  | t :: r => if t.x = s then (if d = 32 then some (.er t.p 13) else if fl then some (.er t.p 3) else some (.ok () r)) else some (.er t.p 11)
def opOf (x : Bs) : Int × Nat :=
  if x = [124, 124] then (13, 1) else if x = [38, 38] then (12, 2) else if x = [61, 61] then (6, 3) else if x = [33, 61] then (7, 3) else if x = [60] then (8, 3) else if x = [60, 61] then (9, 3)
  else if x = [62] then (10, 3) else if x = [62, 61] then (11, 3) else if x = [43] then (1, 4) else if x = [45] then (2, 4) else if x = [42] then (3, 5) else if x = [47] then (4, 5) else if x = [37] then (5, 5) else (0, 0)
def lit (ty b : Int) : Ex := (⟨1, 0, [], [], ty, b⟩, .nil)
section
variable (E : Bool → Nat → List Tok → Ou Ex)
def rwE (d : Nat) : Nat → Exs → List Tok → Ou Exs
  | 0, _, _ => none
  | _ + 1, _, [] => none
  | g + 1, acc, t :: r => if t.x = [44] then bd (E (acc.len == 8) d r) fun e ts => rwE d g (acc.app (.cons e.1 e.2 .nil)) ts else some (.ok acc (t :: r))
def args (g d : Nat) : List Tok → Ou Exs
  | t :: u :: r => if t.x = [40] ∧ u.x = [41] then some (.ok .nil r) else
      bd (opn [40] false d (t :: u :: r)) fun _ ts => bd (E false (d + 1) ts) fun e ts => bd (rwE E (d + 1) g (.cons e.1 e.2 .nil) ts) fun l ts => bd (must [41] false ts) fun _ ts => some (.ok l ts)
  | [t] => if t.x = [40] then none else some (.er t.p 11)
  | [] => none
end
section
variable (E : Nat → List Tok → Ou Ex) (C : Nat → Ex → List Tok → Ou Ex)
variable (B : Nat → List Tok → Ou Sts)
end
section
variable (E : Nat → List Tok → Ou Ex) (B : Nat → List Tok → Ou Sts) (g : Nat)
end
section
variable (g : Nat)
end
def endT (n : Nat) : Tok := ⟨0, [], 0, 0, n⟩
end Pz
end Go.Proofs.YteijjaabngkbjaaGreatDoor
namespace Go.Proofs.YteijjaabngkbjaaGreatDoor
set_option linter.unusedSimpArgs false
set_option linter.unusedVariables false
namespace Pz
open Lx Te
def G (ts : List Tok) : Prop := ∃ b n, ts = b ++ [endT n] ∧ ∀ t ∈ b, t.x ≠ []
theorem G.ne {ts : List Tok} (h : G ts) : ts ≠ [] := by
  obtain ⟨b, n, rfl, _⟩ := h
  simp
theorem G.tail {t : Tok} {r : List Tok} (h : G (t :: r)) (ht : t.x ≠ [] ∨ t.k ≠ 0) : G r := by
  obtain ⟨b, n, e, hb⟩ := h
  cases b with
  | nil =>
    simp only [List.nil_append, List.cons.injEq] at e
    obtain ⟨rfl, rfl⟩ := e
    simp [endT] at ht
  | cons t' b =>
    simp only [List.cons_append, List.cons.injEq] at e
    obtain ⟨rfl, rfl⟩ := e
    exact ⟨b, n, rfl, fun t ht => hb t (by simp [ht])⟩
def Fn {α : Type} (n : Nat) (m : Ou α) : Prop :=
  match m with
  | none => False
  | some (.er _ _) => True
  | some (.ok _ ts) => G ts ∧ ts.length ≤ n
theorem Fn.er {α : Type} {n : Nat} (p : Nat) (c : Int) : Fn n (some (.er p c) : Ou α) := trivial
theorem Fn.ok {α : Type} {n : Nat} {a : α} {ts : List Tok} (h : G ts) (hn : ts.length ≤ n) : Fn n (some (.ok a ts)) := ⟨h, hn⟩
theorem Fn.bd {α β : Type} {n n' : Nat} {m : Ou α} {k : α → List Tok → Ou β} (h : Fn n m) (hk : ∀ a ts, G ts → ts.length ≤ n → Fn n' (k a ts)) : Fn n' (bd m k) := by
  match m, h with
  | some (.er p c), _ => exact trivial
  | some (.ok a ts), ⟨h1, h2⟩ => exact hk a ts h1 h2
theorem Fn.mono {α : Type} {n n' : Nat} {m : Ou α} (h : Fn n m) (hn : n ≤ n') : Fn n' m := by
  match m, h with
  | some (.er p c), _ => exact trivial
  | some (.ok a ts), ⟨h1, h2⟩ => exact ⟨h1, Nat.le_trans h2 hn⟩
theorem G.pos {ts : List Tok} (h : G ts) : 0 < ts.length := List.length_pos_iff.2 h.ne
def FE (E : Bool → Nat → List Tok → Ou Ex) (n : Nat) : Prop := ∀ fl d ts, G ts → ts.length < n → Fn (ts.length - 1) (E fl d ts)
section
variable {E : Bool → Nat → List Tok → Ou Ex} {n : Nat} (hE : FE E n)
include hE
end
def FB (B : Nat → List Tok → Ou Sts) (n : Nat) : Prop := ∀ d ts, G ts → ts.length < n → Fn (ts.length - 1) (B d ts)
section
variable {E : Nat → List Tok → Ou Ex} {n : Nat} (hE : ∀ d ts, G ts → ts.length < n → Fn (ts.length - 1) (E d ts))
include hE
variable {C : Nat → Ex → List Tok → Ou Ex} (hC : ∀ d e ts, G ts → ts.length < n → Fn (ts.length - 1) (C d e ts))
include hC
variable {B : Nat → List Tok → Ou Sts} {k : Nat} (hB : FB B k)
include hB
end
section
variable {E : Nat → List Tok → Ou Ex} {n : Nat} (hE : ∀ d ts, G ts → ts.length < n → Fn (ts.length - 1) (E d ts))
variable {B : Nat → List Tok → Ou Sts} (hB : FB B n) {g : Nat} (hng : n ≤ g + 1)
include hE hB hng
end
end Pz
end Go.Proofs.YteijjaabngkbjaaGreatDoor
namespace Go.Proofs.YteijjaabngkbjaaGreatDoor
set_option linter.unusedSimpArgs false
set_option linter.unusedVariables false
namespace Pz
open Lx Te
open Go.RowKit (wrap64)
section
variable (tx : Int → Int → Bs)
end
def Fin (lv : Nat) (rest : List Tok) : Prop := ∃ t r, rest = t :: r ∧ t.x ≠ [46] ∧ t.x ≠ [40] ∧ (opOf t.x).2 < lv
section
variable (rn : Bs → Int) (cn : Int → Int)
def RX (h : EH) (k : Exs) : Prop := errH rn cn h k.len = 0 ∧ errL rn cn k = 0
end
def NnX : Exs → Prop
  | .nil => True
  | .cons h k r => 0 ≤ h.vb ∧ NnX k ∧ NnX r
theorem orE_0 {a b : Int} (h : orE a b = 0) : a = 0 ∧ b = 0 := by
  unfold orE at h
  split at h
  · exact ⟨by assumption, h⟩
  · exact absurd h (by assumption)
theorem RX_kid {rn : Bs → Int} {cn : Int → Int} {h : EH} {k r : Exs} (hr : errL rn cn (.cons h k r) = 0) : RX rn cn h k ∧ errL rn cn r = 0 := by
  rw [errL] at hr
  obtain ⟨a, b⟩ := orE_0 hr
  obtain ⟨c, d⟩ := orE_0 a
  exact ⟨⟨c, d⟩, b⟩
theorem wrap_sm {a : Int} (h0 : 0 ≤ a) (h1 : a ≤ 100) : wrap64 a = a := by unfold wrap64; omega
structure Law (rn : Bs → Int) (cn : Int → Int) (tx : Int → Int → Bs) : Prop where
  nm : ∀ x, rn x = 0 → ∃ c r, x = c :: r ∧ ltr c = true
  int : ∀ vb, 0 ≤ vb → ∃ c r, tx 1 vb = c :: r ∧ dgt c = true
  flo : ∀ vb, 0 ≤ vb → litOk cn 2 vb = true → vb ≠ 9218868437227405312 → vb ≠ 9221120237041090561 → ∃ c r, tx 2 vb = c :: r ∧ dgt c = true
section
variable {rn : Bs → Int} {cn : Int → Int} {tx : Int → Int → Bs} (L : Law rn cn tx)
end
end Pz
end Go.Proofs.YteijjaabngkbjaaGreatDoor
namespace Go.Proofs.YteijjaabngkbjaaGreatDoor
set_option linter.unusedSimpArgs false
set_option linter.unusedVariables false
set_option linter.unusedSectionVars false
namespace Pz
open Lx Te
open Go.RowKit (wrap64)
theorem Fin.mono {a b : Nat} {rest : List Tok} (h : Fin a rest) (hab : a ≤ b) : Fin b rest := by
  obtain ⟨t, r, rfl, h1, h2, h3⟩ := h
  exact ⟨t, r, rfl, h1, h2, by omega⟩
section
variable {rn : Bs → Int} {cn : Int → Int} {tx : Int → Int → Bs} (L : Law rn cn tx)
include L
end
end Pz
end Go.Proofs.YteijjaabngkbjaaGreatDoor
namespace Go.Proofs.YteijjaabngkbjaaGreatDoor
set_option linter.unusedSimpArgs false
set_option linter.unusedVariables false
namespace Pz
open Lx Te
open Go.RowKit (wrap64)
section
variable (tx : Int → Int → Bs)
end
def NnS : Sts → Prop
  | .nil => True
  | .cons _ e b l r => NnX e ∧ NnS b ∧ NnS l ∧ NnS r
theorem dS_acc : ∀ (s : Sts) (a acc : Int), acc ≤ dS s a acc
  | .nil, _, acc => Int.le_refl _
  | .cons h e b l r, a, acc => by
    rw [dS]
    refine Int.le_trans ?_ (dS_acc r a _)
    omega
theorem dS_cons {h : SH} {e : Exs} {b l r : Sts} {a acc : Int} (h0 : 0 ≤ a) (h1 : a ≤ 32) (H : dS (.cons h e b l r) a acc ≤ 32) :
    dL e a a ≤ 32 ∧ ((hasBody h.kind = true ∨ 0 < b.len) → dS b (a + 1) (a + 1) ≤ 32) ∧ ((h.kind = 8 ∨ 0 < l.len) → dS l (a + 1) (a + 1) ≤ 32) ∧ ∃ acc', dS r a acc' ≤ 32 := by
  rw [dS, wrap_sm (a := a + 1) (by omega) (by omega)] at H
  have h2 := dS_acc r a (max acc (if h.kind = 8 ∨ 0 < l.len then max (if hasBody h.kind || decide (0 < b.len) then max (dL e a a) (dS b (a + 1) (a + 1)) else dL e a a) (dS l (a + 1) (a + 1)) else if hasBody h.kind || decide (0 < b.len) then max (dL e a a) (dS b (a + 1) (a + 1)) else dL e a a))
  have h3 := Int.le_trans h2 H
  refine ⟨?_, ?_, ?_, _, H⟩
  · split at h3 <;> split at h3 <;> omega
  · intro hb
    rw [if_pos (c := (hasBody h.kind || decide (0 < b.len)) = true) (by simpa using hb)] at h3
    split at h3 <;> omega
  · intro hl
    rw [if_pos hl] at h3
    omega
section
variable {rn : Bs → Int} {cn : Int → Int} {tx : Int → Int → Bs} (L : Law rn cn tx)
include L
end
end Pz
end Go.Proofs.YteijjaabngkbjaaGreatDoor
namespace Go.Proofs.YteijjaabngkbjaaGreatDoor
set_option linter.unusedSimpArgs false
set_option linter.unusedVariables false
namespace Pz
open Lx Te
section
variable (tx : Int → Int → Bs)
end
def NnD (d : De) : Prop := NnX d.e ∧ NnS d.body
section
variable {rn : Bs → Int} {cn : Int → Int} {tx : Int → Int → Bs} (L : Law rn cn tx) (hEl : ∀ x, rn x = 0 → x ≠ [101, 108, 115, 101])
theorem errP_of : ∀ (ps : List Pa), errP rn ps = 0 → ∀ p ∈ ps, rn p.name = 0 ∧ isTy p.type = true
  | [], _, p, hp => by simp at hp
  | q :: ps, h, p, hp => by
    rw [errP] at h
    obtain ⟨h1, h2⟩ := orE_0 h
    obtain ⟨h3, h4⟩ := orE_0 h1
    rcases List.mem_cons.1 hp with rfl | hp
    · refine ⟨h3, ?_⟩
      by_cases e : isTy p.type = true
      · exact e
      · rw [if_neg e] at h4; omega
    · exact errP_of ps h2 p hp
include L
include hEl
end
end Pz
end Go.Proofs.YteijjaabngkbjaaGreatDoor
namespace Go.Proofs.YteijjaabngkbjaaGreatDoor
set_option linter.unusedSimpArgs false
set_option linter.unusedVariables false
namespace Pz
open Lx Te
abbrev Al (a b : List Tok) : Prop := a.map Tok.core = b.map Tok.core
def Rl {α : Type} (m m' : Ou α) : Prop :=
  match m, m' with
  | none, none => True
  | some (.er _ c), some (.er _ c') => c = c'
  | some (.ok a ts), some (.ok a' ts') => a = a' ∧ Al ts ts'
  | _, _ => False
theorem Rl.bd {α β : Type} {m m' : Ou α} {k k' : α → List Tok → Ou β} (h : Rl m m') (hk : ∀ a ts ts', Al ts ts' → Rl (k a ts) (k' a ts')) : Rl (bd m k) (bd m' k') := by
  match m, m', h with
  | none, none, _ => exact trivial
  | some (.er p c), some (.er p' c'), h => exact h
  | some (.ok a ts), some (.ok a' ts'), ⟨e, h⟩ => subst e; exact hk a ts ts' h
theorem Rl.ok {α : Type} (a : α) {ts ts' : List Tok} (h : Al ts ts') : Rl (some (.ok a ts)) (some (.ok a ts')) := ⟨rfl, h⟩
theorem Rl.er {α : Type} (p p' : Nat) (c : Int) : Rl (some (.er p c) : Ou α) (some (.er p' c)) := rfl
theorem Al.two {a b : List Tok} (h : Al a b) : (a = [] ∧ b = []) ∨ ∃ t t' r r', a = t :: r ∧ b = t' :: r' ∧ t.k = t'.k ∧ t.x = t'.x ∧ t.ty = t'.ty ∧ t.b = t'.b ∧ Al r r' := by
  match a, b, h with
  | [], [], _ => exact Or.inl ⟨rfl, rfl⟩
  | [], _ :: _, h => simp [Al] at h
  | _ :: _, [], h => simp [Al] at h
  | t :: r, t' :: r', h =>
    simp only [Al, List.map_cons, List.cons.injEq, Tok.core, Prod.mk.injEq] at h
    exact Or.inr ⟨t, t', r, r', rfl, rfl, h.1.1, h.1.2.1, h.1.2.2.1, h.1.2.2.2, h.2⟩
theorem Al.cons {t t' : Tok} {r r' : List Tok} (h1 : t.k = t'.k) (h2 : t.x = t'.x) (h3 : t.ty = t'.ty) (h4 : t.b = t'.b) (h : Al r r') : Al (t :: r) (t' :: r') := by
  simp only [Al, List.map_cons, List.cons.injEq, Tok.core, Prod.mk.injEq]
  exact ⟨⟨h1, h2, h3, h4⟩, h⟩
def AE (E : Bool → Nat → List Tok → Ou Ex) : Prop := ∀ fl d a b, Al a b → Rl (E fl d a) (E fl d b)
section
variable {E : Bool → Nat → List Tok → Ou Ex} (hE : AE E)
include hE
end
section
variable {E : Nat → List Tok → Ou Ex} (hE : ∀ d a b, Al a b → Rl (E d a) (E d b))
include hE
variable {C : Nat → Ex → List Tok → Ou Ex} (hC : ∀ d e a b, Al a b → Rl (C d e a) (C d e b))
variable {B : Nat → List Tok → Ou Sts} (hB : ∀ d a b, Al a b → Rl (B d a) (B d b))
end
section
variable {E : Nat → List Tok → Ou Ex} (hE : ∀ d a b, Al a b → Rl (E d a) (E d b))
variable {B : Nat → List Tok → Ou Sts} (hB : ∀ d a b, Al a b → Rl (B d a) (B d b)) (g : Nat)
include hE hB
end
end Pz
end Go.Proofs.YteijjaabngkbjaaGreatDoor
namespace Go.Proofs.YteijjaabngkbjaaGreatDoor
set_option linter.unusedSimpArgs false
set_option linter.unusedVariables false
namespace Pz
open Lx Te
section
variable {rn : Bs → Int} {cn : Int → Int} {tx : Int → Int → Bs} (L : Law rn cn tx) (hEl : ∀ x, rn x = 0 → x ≠ [101, 108, 115, 101])
theorem dD_of {d : De} (h : dD d ≤ 32) : dL d.e 0 0 ≤ 32 ∧ (d.kind = 3 → dS d.body 1 1 ≤ 32) := by
  unfold dD at h
  refine ⟨?_, ?_⟩
  · split at h <;> omega
  · intro e
    rw [if_pos (Or.inl e)] at h
    omega
include L hEl
end
end Pz
end Go.Proofs.YteijjaabngkbjaaGreatDoor
namespace Go.Proofs.YteijjaabngkbjaaGreatDoor
set_option linter.unusedSimpArgs false
set_option linter.unusedVariables false
namespace Pz
open Lx Te
def Sz {α : Type} (f : α → Nat) (n : Nat) : Ou α → Prop
  | some (.ok a ts) => f a + ts.length ≤ n
  | _ => True
theorem Sz.ok {α : Type} {f : α → Nat} {n : Nat} {a : α} {ts : List Tok} (h : f a + ts.length ≤ n) : Sz f n (some (.ok a ts)) := h
theorem Sz.bd {α β : Type} {f : α → Nat} {f' : β → Nat} {n n' : Nat} {m : Ou α} {k : α → List Tok → Ou β} (h : Sz f n m) (hk : ∀ a ts, f a + ts.length ≤ n → Sz f' n' (k a ts)) : Sz f' n' (bd m k) := by
  rcases m with _ | ⟨a, ts⟩ | ⟨p, c⟩
  · trivial
  · exact hk a ts h
  · trivial
theorem Sz.mono {α : Type} {f f' : α → Nat} {n n' : Nat} {m : Ou α} (h : Sz f n m) (hk : ∀ a k, f a + k ≤ n → f' a + k ≤ n') : Sz f' n' m := by
  rcases m with _ | ⟨a, ts⟩ | ⟨p, c⟩
  · trivial
  · exact hk a _ h
  · trivial
def fE (e : Ex) : Nat := e.2.size + 1
section
variable {E : Bool → Nat → List Tok → Ou Ex}
end
section
variable {E : Nat → List Tok → Ou Ex} {C : Nat → Ex → List Tok → Ou Ex} {B : Nat → List Tok → Ou Sts} (hE : ∀ d ts, Sz fE ts.length (E d ts)) (hC : ∀ d e ts, Sz fE ts.length (C d e ts)) (hB : ∀ d ts, Sz Sts.size ts.length (B d ts))
end
section
variable {E : Nat → List Tok → Ou Ex} {B : Nat → List Tok → Ou Sts} (hE : ∀ d ts, Sz fE ts.length (E d ts)) (hB : ∀ d ts, Sz Sts.size ts.length (B d ts)) (g : Nat)
def fDs (l : List De) : Nat := (l.map ndD).sum
end
end Pz
end Go.Proofs.YteijjaabngkbjaaGreatDoor
namespace Go.Proofs.YteijjaabngkbjaaGreatDoor
set_option linter.unusedSimpArgs false
set_option linter.unusedVariables false
namespace Pz
open Lx Te
open Go.RowKit (wrap64)
section
variable {rn : Bs → Int} {cn : Int → Int} {tx : Int → Int → Bs} (hn : ∀ x, rn x = 0 → x.length ≤ 32) (ht : ∀ vt vb, litOk cn vt vb = true → 0 ≤ vb → (tx vt vb).length ≤ 3001)
theorem ifx {c : Prop} [Decidable c] {a : Int} (h : (if c then (0 : Int) else a) = 0) (ha : a ≠ 0) : c := by
  split at h
  · assumption
  · exact absurd h ha
include hn ht in
theorem pre_ln (h : EH) (n : Nat) (h0 : 0 ≤ h.vb) (he : errH rn cn h n = 0) : (pre tx h).length ≤ 3100 := by
  unfold errH at he
  obtain ⟨e1, e2⟩ := orE_0 he
  obtain ⟨e2, _⟩ := orE_0 e2
  have hf := ifx (c := fitsE cn h n = true) e1 (by decide)
  unfold nameE at e2
  unfold pre
  by_cases k1 : h.kind = 1
  · rw [if_pos k1]
    unfold fitsE at hf
    rw [if_pos k1, Bool.and_eq_true] at hf
    have := ht h.vt h.vb hf.1 h0
    omega
  rw [if_neg k1]
  by_cases k2 : h.kind = 2
  · rw [if_pos k2]
    rw [if_pos (Or.inl k2)] at e2
    have := hn _ e2
    omega
  rw [if_neg k2]
  by_cases k3 : h.kind = 3
  · rw [if_pos k3]
    rw [if_neg (by omega), if_pos (Or.inl k3)] at e2
    obtain ⟨a, b⟩ := orE_0 e2
    have := hn _ a
    have := hn _ b
    simp only [List.length_append, List.length_cons]
    omega
  rw [if_neg k3]
  by_cases k4 : h.kind = 4
  · rw [if_pos k4]
    rw [if_pos (Or.inr k4)] at e2
    have := hn _ e2
    simp only [List.length_append, List.length_cons, List.length_nil]
    omega
  rw [if_neg k4]
  by_cases k5 : h.kind = 5
  · rw [if_pos k5]
    rw [if_neg (by omega), if_pos (Or.inr k5)] at e2
    obtain ⟨a, b⟩ := orE_0 e2
    have := hn _ a
    have := hn _ b
    simp only [List.length_append, List.length_cons, List.length_nil]
    omega
  rw [if_neg k5]
  repeat' split
  all_goals simp
theorem post_ln (h : EH) : (post h).length ≤ 1 := by
  unfold post
  repeat' split
  all_goals simp
theorem mark_ln (op : Int) : (Te.mark op).length ≤ 4 := by
  by_cases h : 1 ≤ op ∧ op ≤ 12
  · obtain rfl | rfl | rfl | rfl | rfl | rfl | rfl | rfl | rfl | rfl | rfl | rfl : op = 1 ∨ op = 2 ∨ op = 3 ∨ op = 4 ∨ op = 5 ∨ op = 6 ∨ op = 7 ∨ op = 8 ∨ op = 9 ∨ op = 10 ∨ op = 11 ∨ op = 12 := by omega
    all_goals decide
  · have e : Te.mark op = [32, 124, 124, 32] := by
      unfold Te.mark
      rw [if_neg (by omega), if_neg (by omega), if_neg (by omega), if_neg (by omega), if_neg (by omega), if_neg (by omega), if_neg (by omega), if_neg (by omega), if_neg (by omega), if_neg (by omega), if_neg (by omega), if_neg (by omega)]
    rw [e]
    decide
theorem sep_ln (h : EH) : (sep h).length ≤ 4 := by
  unfold sep
  split
  · exact mark_ln _
  · simp
theorem par_ln (b : Bool) (l : Bs) : (par b l).length ≤ l.length + 2 := by
  unfold par
  split <;> simp
include hn ht in
theorem txK_ln : ∀ (k : Exs) (p : EH) (f : Bool), errL rn cn k = 0 → NnX k → (txK tx p f k).length ≤ 4000 * k.size
  | .nil, _, _, _, _ => by simp [txK]
  | .cons h k r, p, f, he, hs => by
    obtain ⟨hh, hr⟩ := RX_kid he
    have i1 := txK_ln k h true hh.2 hs.2.1
    have i2 := txK_ln r p false hr hs.2.2
    have e1 := pre_ln hn ht h k.len hs.1 hh.1
    have e2 := post_ln h
    have e3 := sep_ln p
    have e4 := par_ln (decide (level h < kidL p f)) (pre tx h ++ txK tx h true k ++ post h)
    unfold txK
    simp only [List.length_append, Exs.size] at e4 ⊢
    have e5 : (if f then [] else sep p : Bs).length ≤ 4 := by
      split
      · simp
      · exact e3
    omega
include hn ht in
theorem txF_ln (k : Exs) (he : errL rn cn k = 0) (hs : NnX k) : (txF tx k).length ≤ 4000 * k.size := by
  cases k with
  | nil => simp [txF]
  | cons h k r =>
    obtain ⟨hh, hr⟩ := RX_kid he
    have i1 := txK_ln hn ht k h true hh.2 hs.2.1
    have e1 := pre_ln hn ht h k.len hs.1 hh.1
    have e2 := post_ln h
    simp only [txF, Te.bare, List.length_append, Exs.size]
    omega
theorem pad_ln (n : Nat) : (Te.pad n).length = 2 * n := by
  unfold Te.pad
  induction n with
  | zero => rfl
  | succ n ih => rw [List.replicate_succ, List.flatten_cons, List.length_append, ih]; simp; omega
include hn ht in
theorem stT_ln : ∀ (s : Sts) (n : Nat) (acc : Int), n ≤ 32 → errS rn cn s = 0 → NnS s → dS s (n : Int) acc ≤ 32 → (stT tx s n).length ≤ 5000 * s.size
  | .nil, _, _, _, _, _, _ => by simp [stT]
  | .cons h e b l r, n, acc, hn2, he, hs, hd => by
    rw [errS] at he
    obtain ⟨a1, a2⟩ := orE_0 he
    obtain ⟨a3, a4⟩ := orE_0 a1
    obtain ⟨a5, a6⟩ := orE_0 a4
    obtain ⟨a7, a8⟩ := orE_0 a6
    obtain ⟨s1, s2, s3, s4⟩ := hs
    obtain ⟨d1, d2, d3, acc', d4⟩ := dS_cons (by omega) (by omega) hd
    have i0 := stT_ln r n acc' hn2 a2 s4 d4
    have i1 := txF_ln hn ht e a5 s1
    have ib : hasBody h.kind = true ∨ 0 < b.len → (stT tx b (n + 1)).length ≤ 5000 * b.size := fun hb => by
      have := d2 hb
      have := dS_acc b ((n : Int) + 1) ((n : Int) + 1)
      exact stT_ln b (n + 1) ((n : Int) + 1) (by omega) a7 s2 (by simpa using d2 hb)
    have il : h.kind = 8 ∨ 0 < l.len → (stT tx l (n + 1)).length ≤ 5000 * l.size := fun hb => by
      have := d3 hb
      have := dS_acc l ((n : Int) + 1) ((n : Int) + 1)
      exact stT_ln l (n + 1) ((n : Int) + 1) (by omega) a8 s3 (by simpa using d3 hb)
    have hnm : h.kind = 1 ∨ h.kind = 2 ∨ h.kind = 8 → h.name.length ≤ 32 := by
      intro hk
      unfold errSH at a3
      obtain ⟨_, q⟩ := orE_0 a3
      unfold nameS at q
      rw [if_pos (by omega)] at q
      exact hn _ q
    have hp := pad_ln n
    unfold stT
    simp only [List.length_append, Sts.size]
    by_cases k1 : h.kind = 1
    · have := hnm (by omega)
      simp only [if_pos k1, List.length_append, List.length_cons, List.length_nil]
      omega
    by_cases k2 : h.kind = 2
    · have := hnm (by omega)
      simp only [if_neg k1, if_pos k2, List.length_append, List.length_cons, List.length_nil]
      omega
    by_cases k3 : h.kind = 3
    · have := ib (Or.inl (by rw [k3]; rfl))
      simp only [if_neg k1, if_neg k2, if_pos k3, List.length_append, List.length_cons, List.length_nil]
      by_cases hl : 0 < l.len
      · have := il (Or.inr hl)
        simp only [if_pos hl, List.length_append, List.length_cons, List.length_nil]
        omega
      · simp only [if_neg hl, List.length_nil]
        omega
    by_cases k4 : h.kind = 4
    · have := ib (Or.inl (by rw [k4]; rfl))
      simp only [if_neg k1, if_neg k2, if_neg k3, if_pos k4, List.length_append, List.length_cons, List.length_nil]
      omega
    by_cases k5 : h.kind = 5
    · simp only [if_neg k1, if_neg k2, if_neg k3, if_neg k4, if_pos k5, List.length_append, List.length_cons, List.length_nil]
      split
      · simp only [List.length_cons]; omega
      · simp only [List.length_nil]; omega
    by_cases k6 : h.kind = 6
    · simp only [if_neg k1, if_neg k2, if_neg k3, if_neg k4, if_neg k5, if_pos k6, List.length_append, List.length_cons, List.length_nil]
      omega
    by_cases k7 : h.kind = 7
    · simp only [if_neg k1, if_neg k2, if_neg k3, if_neg k4, if_neg k5, if_neg k6, if_pos k7, List.length_append, List.length_cons, List.length_nil]
      omega
    by_cases k8 : h.kind = 8
    · have := ib (Or.inl (by rw [k8]; rfl))
      have := il (Or.inl k8)
      have := hnm (by omega)
      simp only [if_neg k1, if_neg k2, if_neg k3, if_neg k4, if_neg k5, if_neg k6, if_neg k7, if_pos k8, List.length_append, List.length_cons, List.length_nil]
      omega
    · simp only [if_neg k1, if_neg k2, if_neg k3, if_neg k4, if_neg k5, if_neg k6, if_neg k7, if_neg k8, List.length_append, List.length_cons, List.length_nil]
      omega
theorem tyT_ln (t : Int) : (tyT t).length ≤ 7 := by
  unfold tyT
  repeat' split
  all_goals simp
include hn in
theorem paT_ln : ∀ (l : List Pa), errP rn l = 0 → (paT l).length ≤ 100 * l.length
  | [], _ => by simp [paT]
  | [p], h => by
    have h1 := (orE_0 (orE_0 h).1).1
    have := hn _ h1
    have := tyT_ln p.type
    simp only [paT, List.length_append, List.length_cons, List.length_nil]
    omega
  | p :: q :: r, h => by
    have h1 := (orE_0 (orE_0 h).1).1
    have := hn _ h1
    have := tyT_ln p.type
    have := paT_ln (q :: r) (orE_0 h).2
    simp only [paT, List.length_append, List.length_cons, List.length_nil] at *
    omega
include hn ht in
theorem deT_ln (d : De) (he : errD rn cn d = 0) (hN : NnD d) : (deT tx d).length ≤ 5000 * ndD d := by
  unfold errD at he
  obtain ⟨a1, a2⟩ := orE_0 he
  obtain ⟨a3, a4⟩ := orE_0 a2
  obtain ⟨a5, a6⟩ := orE_0 a4
  obtain ⟨a7, a8⟩ := orE_0 a6
  obtain ⟨a9, b1⟩ := orE_0 a8
  obtain ⟨b2, b3⟩ := orE_0 b1
  have hdd : dD d ≤ 32 := by
    apply Classical.byContradiction
    intro hc
    rw [if_pos (by omega)] at a1
    exact absurd a1 (by decide)
  have hfit := ifx (c := fitsD d = true) a3 (by decide)
  have hnm := hn _ a5
  have hty := tyT_ln d.type
  have hx : (exT d.ex).length ≤ 7 := by unfold exT; split <;> simp
  have hF := txF_ln hn ht d.e b2 hN.1
  have hP := paT_ln hn d.params a9
  unfold deT ndD
  by_cases k1 : d.kind = 1
  · simp only [if_pos k1, List.length_append, List.length_cons, List.length_nil]
    omega
  by_cases k2 : d.kind = 2
  · simp only [if_neg k1, if_pos k2, List.length_append, List.length_cons, List.length_nil]
    omega
  · have k3 : d.kind = 3 := by
      apply Classical.byContradiction
      intro k3
      unfold fitsD at hfit
      rw [if_neg k1, if_neg k2, if_neg k3] at hfit
      exact absurd hfit (by decide)
    have hS := stT_ln hn ht d.body 1 1 (by decide) b3 hN.2 (by have := (dD_of hdd).2 k3; simpa using this)
    simp only [if_neg k1, if_neg k2, List.length_append, List.length_cons, List.length_nil]
    omega
include hn ht in
theorem desT_ln : ∀ (l : List De), errDs rn cn l = 0 → (∀ d ∈ l, NnD d) → (l.flatMap (deT tx)).length ≤ 5000 * fDs l
  | [], _, _ => by simp
  | d :: r, he, hN => by
    obtain ⟨h1, h2⟩ := orE_0 he
    have i := desT_ln r h2 (fun x hx => hN x (by simp [hx]))
    have j := deT_ln hn ht d h1 (hN d (by simp))
    simp only [List.flatMap_cons, List.length_append, fDs, List.map_cons, List.sum_cons] at *
    omega
include hn in
theorem impT_ln : ∀ (l : List Bs), errI rn l = 0 → (l.flatMap (fun x => [105, 109, 112, 111, 114, 116, 32] ++ x ++ [59, 10])).length ≤ 100 * l.length
  | [], _ => by simp
  | x :: r, he => by
    obtain ⟨h1, h2⟩ := orE_0 he
    have i := impT_ln r h2
    have j := hn _ h1
    rw [List.flatMap_cons]
    simp only [List.length_append, List.length_cons, List.length_nil] at *
    omega
include hn ht in
theorem moT_ln (m : Mo) (he : errM rn cn m = 0) (hN : ∀ d ∈ m.decls, NnD d) : (moT tx m).length ≤ 100 + 100 * m.imports.length + 5000 * fDs m.decls := by
  unfold errM at he
  obtain ⟨a1, a2⟩ := orE_0 he
  obtain ⟨a3, a4⟩ := orE_0 a2
  obtain ⟨a5, a6⟩ := orE_0 a4
  obtain ⟨a7, a8⟩ := orE_0 a6
  have h1 := hn _ a1
  have h2 := impT_ln hn m.imports a5
  have h3 := desT_ln hn ht m.decls a8 hN
  unfold moT
  rw [List.length_append, List.length_append]
  simp only [List.length_append, List.length_cons, List.length_nil] at *
  omega
end
end Pz
end Go.Proofs.YteijjaabngkbjaaGreatDoor
namespace Go.Proofs.YteijjaabngkbjaaGreatDoor
open Go.RowKit Lx Te
set_option linter.unusedSimpArgs false
set_option linter.unusedVariables false
abbrev pp (q : Nat) : Value := .pointer (some ⟨q, 0, none⟩)
abbrev psO (v : Value) (d : Nat) (fl : Bool) : Obj := .cells #[v, ci (d : Int), .bool fl] 146 (0, 0)
def Tq (q : Nat) (w : World) : Prop := ∀ w', Fr (fun k => q ≤ k) w w' → F.Tab w'
theorem Tq.step {q : Nat} {S : Nat → Prop} {w w' : World} (h : Tq q w) (hf : Fr S w w') (hS : ∀ k, S k → q ≤ k) : Tq q w' :=
  fun w'' hf' => h w'' ((hf.mono (fun k _ hk => hS k hk)).same hf')
theorem Tq.of {q : Nat} {w w' : World} (h : F.Tab w) (hf : Fr (fun _ => False) w w') (hq : w.heap.size ≤ q) : Tq q w' :=
  fun w'' hf' => tab_fr h (hf.trans hf' (fun k hk hs => by omega))
def Ps (w : World) (q : Nat) (ts : List Tok) (d : Nat) (fl : Bool) : Prop :=
  Tq q w ∧ ∃ g off cap, w.heap[q]? = some (psO (.slice (some ⟨g, off, none⟩) ts.length cap) d fl) ∧ g < q ∧ ts.length ≤ cap ∧ cap ≤ maxLen ∧
    ∀ (i : Nat) (t : Tok), ts[i]? = some t → ∀ (j : Nat) (x : Value), (tokC t)[j]? = some x → w.cell? ⟨g, off + i * 5 + j, none⟩ = some x
theorem Ps.keepN {w w' : World} {q : Nat} {ts : List Tok} {d : Nat} {fl : Bool} (h : Ps w q ts d fl) (hf : Fr (fun _ => False) w w') : Ps w' q ts d fl := by
  obtain ⟨hTq, g, off, cap, h1, h2, h3, h4, h5⟩ := h
  exact ⟨hTq.step hf (fun _ f => f.elim), g, off, cap, hf.heap h1 (fun f => f), h2, h3, h4, fun i t ht j x hx => hf.cellN (h5 i t ht j x hx)⟩
theorem Ps.lt {w : World} {q : Nat} {ts : List Tok} {d : Nat} {fl : Bool} (h : Ps w q ts d fl) : q < w.heap.size := by
  obtain ⟨hTq, g, off, cap, h1, _⟩ := h
  exact lt_of_heap h1
theorem Ps.high {S : Nat → Prop} {w w' : World} {q : Nat} {ts : List Tok} {d : Nat} {fl : Bool} (h : Ps w q ts d fl) (hf : Fr S w w') (hS : ∀ k, S k → q < k) : Ps w' q ts d fl := by
  obtain ⟨hTq, g, off, cap, h1, h2, h3, h4, h5⟩ := h
  exact ⟨hTq.step hf (fun k hk => Nat.le_of_lt (hS k hk)), g, off, cap, hf.heap h1 (fun f => by have := hS q f; omega), h2, h3, h4, fun i t ht j x hx => hf.cell (h5 i t ht j x hx) (fun f => by have := hS g f; omega)⟩
theorem Fr.put (w : World) (g off : Nat) (v : Value) : Fr (fun k => k = g) w (w.setCell ⟨g, off, none⟩ v) := Fr.setCell w ⟨g, off, none⟩ v
def gP (p : Nat) (c : Int) : Ending := .panicked [{ v := .iface 110 (.agg #[.int .i64 (p : Int), .int .i64 c]), recovered := false }]
def Out {α : Type} (T : α → Value → World → World → Prop) (q d : Nat) (w : World) (r : Pz.Rs α) (e : Ending) (w' : World) : Prop :=
  match r with
  | .ok a ts => ∃ v, e = .returned v ∧ T a v w w' ∧ Ps w' q ts d false ∧ Fr (fun k => k = q) w w'
  | .er p c => e = gP p c ∧ Fr (fun k => k = q) w w'
end Go.Proofs.YteijjaabngkbjaaGreatDoor
namespace Go.Proofs.YteijjaabngkbjaaGreatDoor
open Go.RowKit Lx Te
set_option linter.unusedSimpArgs false
set_option linter.unusedVariables false
def Nw (B : Nat) (w : World) (P : World → Prop) : Prop := ∀ w', Fr (fun k => k < B) w w' → P w'
theorem Nw.step {B : Nat} {S : Nat → Prop} {w w' : World} {P : World → Prop} (h : Nw B w P) (hf : Fr S w w') (hS : ∀ k, S k → k < B) : Nw B w' P :=
  fun w'' hf' => h w'' ((hf.mono (fun k _ hk => hS k hk)).same hf')
def TE (x : Pz.Ex) (v : Value) (w w' : World) : Prop :=
  ∃ ao cap, v = .agg #[ci x.1.kind, ci x.1.op, ct x.1.mod, ct x.1.name, ci x.1.vt, .int .u64 x.1.vb, .slice ao x.2.len cap] ∧ Nw w.heap.size w' (fun w => ExL w ao cap x.2)
theorem Nw.nil (B : Nat) (w : World) : Nw B w (fun w => ExL w none 0 .nil) := fun _ _ => ⟨Nat.le_refl _, by decide, Or.inl rfl⟩
theorem Nw.one {B : Nat} {w : World} {h : EH} {k : Exs} {ao : Option Addr} {cap b : Nat} {t : TypeId} (hk : Nw B w (fun w => ExL w ao cap k)) (hb : w.heap[b]? = some (.cells #[ci h.kind, ci h.op, ct h.mod, ct h.name, ci h.vt, .int .u64 h.vb, .slice ao k.len cap] t (0, 0))) (hB : B ≤ b) :
    Nw B w (fun w => ExL w (some ⟨b, 0, none⟩) 1 (.cons h k .nil)) := by
  intro w' hf
  have hk' := hk w' hf
  have hb' := hf.heap hb (by omega)
  refine ⟨Nat.le_refl _, by decide, Or.inr ⟨b, 0, rfl, ⟨⟨ao, cap, fun j x hx => ?_, hk'.1, hk'.2.1, hk'.2.2⟩, trivial⟩⟩⟩
  rw [Nat.zero_add, cell_of_row _ _ j _ _ _ hb']
  simpa [exC] using hx
end Go.Proofs.YteijjaabngkbjaaGreatDoor
namespace Go.Proofs.YteijjaabngkbjaaGreatDoor
open Go.RowKit Lx Te
set_option linter.unusedSimpArgs false
set_option linter.unusedVariables false
def Chunks {α : Type} (R : World → α → List Value → Prop) (size : Nat) (w : World) : List α → List Value → Prop
  | [], cs => cs = []
  | x :: l, cs => ∃ c rest, cs = c ++ rest ∧ c.length = size ∧ R w x c ∧ Chunks R size w l rest
theorem Chunks.snoc {α : Type} {R : World → α → List Value → Prop} {size : Nat} {w : World} : ∀ {l : List α} {cs : List Value} (_ : Chunks R size w l cs) {x : α} {c : List Value} (_ : c.length = size) (_ : R w x c), Chunks R size w (l ++ [x]) (cs ++ c)
  | [], cs, h, x, c, hc, hr => by
    obtain rfl : cs = [] := h
    exact ⟨c, [], by simp, hc, hr, rfl⟩
  | y :: l, cs, ⟨d, rest, e, h1, h2, h3⟩, x, c, hc, hr => by
    subst e
    exact ⟨d, rest ++ c, by simp, h1, h2, Chunks.snoc h3 hc hr⟩
theorem Chunks.get {α : Type} {R : World → α → List Value → Prop} {size : Nat} {w : World} : ∀ {l : List α} {cs : List Value} (_ : Chunks R size w l cs) {i : Nat} {x : α} (_ : l[i]? = some x), ∃ c, R w x c ∧ c.length = size ∧ ∀ j u, c[j]? = some u → cs[i * size + j]? = some u
  | [], cs, h, i, x, hi => by simp at hi
  | y :: l, cs, ⟨d, rest, e, h1, h2, h3⟩, i, x, hi => by
    subst e
    cases i with
    | zero =>
      obtain rfl : y = x := by simpa using hi
      refine ⟨d, h2, h1, fun j u hj => ?_⟩
      rw [Nat.zero_mul, Nat.zero_add, List.getElem?_append_left (List.getElem?_eq_some_iff.1 hj).1]
      exact hj
    | succ i =>
      obtain ⟨c, h4, h5, h6⟩ := Chunks.get h3 (i := i) (by simpa using hi)
      refine ⟨c, h4, h5, fun j u hj => ?_⟩
      rw [List.getElem?_append_right (by rw [h1, Nat.succ_mul]; omega), h1, show (i + 1) * size + j - size = i * size + j by rw [Nat.succ_mul]; omega]
      exact h6 j u hj
def Row {α : Type} (R : World → α → List Value → Prop) (e : TypeId) (size : Nat) (w : World) (B : Nat) (v : Value) (l : List α) : Prop :=
  ∃ cells, w.ownsRow B e size v l.length cells ∧ ∀ w', Fr (fun k => k < B ∨ v.ownBlock = some k) w w' → Chunks R size w' l cells
theorem Row.nil {α : Type} (R : World → α → List Value → Prop) (e : TypeId) (size : Nat) (w : World) (B : Nat) : Row R e size w B (.slice none 0 0) [] :=
  ⟨[], World.ownsRow_nil w B e size, fun _ _ => rfl⟩
theorem own_keep {S : Nat → Prop} {w w' : World} {B : Nat} {e : TypeId} {size : Nat} {v : Value} {n : Nat} {xs : List Value} (h : w.ownsRow B e size v n xs) (hf : Fr S w w') (hS : ∀ k, v.ownBlock = some k → ¬ S k) : w'.ownsRow B e size v n xs := by
  obtain ⟨h1, h2⟩ := h
  refine ⟨h1, ?_⟩
  rcases h2 with h0 | ⟨g, cap, cur, rfl, hb, hg, hr⟩
  · exact Or.inl h0
  · exact Or.inr ⟨g, cap, cur, rfl, hb, hf.heap hg (hS g rfl), hr⟩
theorem Row.keep {α : Type} {R : World → α → List Value → Prop} {e : TypeId} {size : Nat} {S : Nat → Prop} {w w' : World} {B : Nat} {v : Value} {l : List α} (h : Row R e size w B v l) (hf : Fr S w w') (hS : ∀ k, S k → k < B) : Row R e size w' B v l := by
  obtain ⟨cells, h1, h2⟩ := h
  refine ⟨cells, own_keep h1 hf (fun k hk hs => ?_), fun w'' hf' => h2 w'' ((hf.mono (fun k _ hk => Or.inl (hS k hk))).same hf')⟩
  have := (World.ownsRow.lt h1 k hk).1
  have := hS k hs
  omega
theorem Row.own {α : Type} {R : World → α → List Value → Prop} {e : TypeId} {size : Nat} {w : World} {B : Nat} {v : Value} {l : List α} (h : Row R e size w B v l) : ∀ k, v.ownBlock = some k → B ≤ k ∧ k < w.heap.size := by
  obtain ⟨cells, h1, h2⟩ := h
  exact World.ownsRow.lt h1
theorem Row.shape {α : Type} {R : World → α → List Value → Prop} {e : TypeId} {size : Nat} {w : World} {B : Nat} {v : Value} {l : List α} (h : Row R e size w B v l) : ∃ ao cap, v = .slice ao l.length cap ∧ l.length ≤ cap ∧ cap ≤ maxLen := by
  obtain ⟨cells, h1, h2⟩ := h
  rcases h1.2 with ⟨rfl, h0⟩ | ⟨g, cap, cur, rfl, hb, hg, hnc, hcm, _⟩
  · exact ⟨none, 0, by rw [h0], by omega, by decide⟩
  · exact ⟨_, cap, rfl, hnc, hcm⟩
def Held {α : Type} (R : World → α → List Value → Prop) (size : Nat) (w : World) (ao : Option Addr) (cap : Nat) (l : List α) : Prop :=
  l.length ≤ cap ∧ cap ≤ maxLen ∧ (l = [] ∨ ∃ b off, ao = some ⟨b, off, none⟩ ∧ ∀ (i : Nat) (x : α), l[i]? = some x → ∃ c, R w x c ∧ c.length = size ∧ ∀ (j : Nat) (u : Value), c[j]? = some u → w.cell? ⟨b, off + i * size + j, none⟩ = some u)
theorem Row.held {α : Type} {R : World → α → List Value → Prop} {e : TypeId} {size : Nat} {w : World} {B : Nat} {v : Value} {l : List α} (h : Row R e size w B v l) : ∃ ao cap, v = .slice ao l.length cap ∧ Nw B w (fun w => Held R size w ao cap l) := by
  obtain ⟨cells, h1, h2⟩ := h
  rcases h1.2 with ⟨rfl, h0⟩ | ⟨g, cap, cur, rfl, hb, hg, hnc, hcm, hcs, ht⟩
  · exact ⟨none, 0, by rw [h0], fun w' _ => ⟨by omega, by decide, Or.inl (List.eq_nil_of_length_eq_zero h0)⟩⟩
  · refine ⟨some ⟨g, 0, none⟩, cap, rfl, fun w' hf => ⟨hnc, hcm, Or.inr ⟨g, 0, rfl, fun i x hi => ?_⟩⟩⟩
    have hch := h2 w' (hf.mono (fun k _ hk => Or.inl hk))
    obtain ⟨c, h3, h4, h5⟩ := hch.get hi
    refine ⟨c, h3, h4, fun j u hj => ?_⟩
    have h6 := h5 j u hj
    rw [Nat.zero_add, cell_of_row w' g _ cur e (0, 0) (hf.heap hg (by omega))]
    rw [← ht, List.getElem?_take] at h6
    split at h6
    · simpa using h6
    · cases h6
def RT (w : World) (x : Bs) (c : List Value) : Prop := c = [ct x]
end Go.Proofs.YteijjaabngkbjaaGreatDoor
namespace Go.Proofs.YteijjaabngkbjaaGreatDoor
open Go.RowKit Lx Te
set_option linter.unusedSimpArgs false
set_option linter.unusedVariables false
theorem add0 (b j : Nat) : (⟨b, 0, none⟩ : Addr).add j = ⟨b, j, none⟩ := by unfold Addr.add; split <;> simp_all
def CE (E : Bool → Nat → List Tok → Pz.Ou Pz.Ex) : Prop := ∀ (fl : Bool) (d : Nat) (ts : List Tok) (rs : Pz.Rs Pz.Ex) (q : Nat) (w : World), d ≤ 32 → E fl d ts = some rs → Ps w q ts d fl →
  Calls Tryz.prog 59 #[pp q] w (Out TE q d w rs)
section
variable {E : Bool → Nat → List Tok → Pz.Ou Pz.Ex} (hE : CE E)
include hE
end
end Go.Proofs.YteijjaabngkbjaaGreatDoor
namespace Go.Proofs
open Go.Shelf
def Tryz.lays156_ren : Go.Shelf.Ren := ⟨fun | 156 => 128 | 165 => 170 | 166 => 78 | 169 => 39 | 240 => 127 | 241 => 213 | 276 => 169 | 277 => 240 | n => n, fun | 31 => 22 | 9 => 9 | 3 => 3 | 4 => 4 | 0 => 0 | 20 => 20 | 72 => 78 | 76 => 128 | 70 => 76 | 37 => 46 | 75 => 127 | 127 => 133 | 164 => 194 | 5 => 5 | 80 => 83 | n => n, fun | n => n⟩
theorem Tryz.lays156 : Go.Proofs.Lays.n156 Tryz.prog Tryz.lays156_ren := {
  mixed := by kernel_rfl
  f156 := Tryz.func128.trans (congrArg some (by kernel_rfl))
  f165 := Tryz.func170.trans (congrArg some (by kernel_rfl))
  f166 := Tryz.func78.trans (congrArg some (by kernel_rfl))
  f169 := Tryz.func39.trans (congrArg some (by kernel_rfl))
  f240 := Tryz.func127.trans (congrArg some (by kernel_rfl))
  f241 := Tryz.func213.trans (congrArg some (by kernel_rfl))
  f276 := Tryz.func169.trans (congrArg some (by kernel_rfl))
  f277 := Tryz.func240.trans (congrArg some (by kernel_rfl))
  t0 := Tryz.underlying0
  a0 := Tryz.isAgg0
  z0 := Tryz.sizeOf0
  v0 := Tryz.zeroValue0
  t3 := Tryz.underlying3
  a3 := Tryz.isAgg3
  z3 := Tryz.sizeOf3
  v3 := Tryz.zeroValue3
  t4 := Tryz.underlying4
  a4 := Tryz.isAgg4
  z4 := Tryz.sizeOf4
  v4 := Tryz.zeroValue4
  t9 := Tryz.underlying9
  a9 := Tryz.isAgg9
  z9 := Tryz.sizeOf9
  v9 := Tryz.zeroValue9
  t20 := Tryz.underlying20
  a20 := Tryz.isAgg20
  z20 := Tryz.sizeOf20
  v20 := Tryz.zeroValue20
  t31 := Tryz.underlying22
  a31 := Tryz.isAgg22
  z31 := Tryz.sizeOf22
  v31 := Tryz.zeroValue22
  t37 := Tryz.underlying46
  a37 := Tryz.isAgg46
  z37 := Tryz.sizeOf46
  v37 := Tryz.zeroValue46
  t70 := Tryz.underlying76
  a70 := Tryz.isAgg76
  z70 := Tryz.sizeOf76
  v70 := Tryz.zeroValue76
  t72 := Tryz.underlying78
  a72 := Tryz.isAgg78
  z72 := Tryz.sizeOf78
  v72 := Tryz.zeroValue78
  t75 := Tryz.underlying127
  a75 := Tryz.isAgg127
  z75 := Tryz.sizeOf127
  v75 := Tryz.zeroValue127
  t76 := Tryz.underlying128
  a76 := Tryz.isAgg128
  z76 := Tryz.sizeOf128
  v76 := Tryz.zeroValue128
  t127 := Tryz.underlying133
  a127 := Tryz.isAgg133
  z127 := Tryz.sizeOf133
  v127 := Tryz.zeroValue133
  t164 := Tryz.underlying194
  a164 := Tryz.isAgg194
  z164 := Tryz.sizeOf194
  v164 := Tryz.zeroValue194 }
theorem Tryz.Builder_Extra_156 : Builder.Extra Tryz.prog Tryz.lays156_ren := {
  sizeBuilder := by kernel_rfl
  liesBuilder := by kernel_rfl
  t5 := Tryz.underlying5
  a5 := Tryz.isAgg5
  z5 := Tryz.sizeOf5
  v5 := Tryz.zeroValue5
  infoByte := by kernel_rfl
  cellsByte := by kernel_rfl
  sizeByte := by kernel_rfl
  neB5 := by decide }
open Go.RowKit in
theorem Tryz.strings_Join_none (a : Option Addr) (c : Nat) (sep : ByteArray) (w : World) :
    Calls Tryz.prog 128 #[.slice a 0 c, .string sep] w fun e w' => e = .returned (.string ⟨#[]⟩) ∧ w' = w := Any.strings_Join_none Tryz.lays156 Tryz.Builder_Extra_156 a c sep w
open Go.RowKit in
theorem Tryz.strings_Join (bk o c : Nat) (xs : List ByteArray) (sep : ByteArray) (w : World) (hcells : ∀ (j : Nat) x, xs[j]? = some x → w.cell? ⟨bk, o + j, none⟩ = some (.string x)) (hbk : bk < w.heap.size) (hN : xs.length ≤ 140737488355328) (hcap : xs.length ≤ c) (hlen : (Lib.join (xs.map (·.data.toList)) sep.data.toList).length ≤ 140737488355328) :
    Calls Tryz.prog 128 #[.slice (some ⟨bk, o, none⟩) xs.length c, .string sep] w fun e w' => e = .returned (.string ⟨(Lib.join (xs.map (·.data.toList)) sep.data.toList).toArray⟩) ∧ Below w.heap.size w w' := Any.strings_Join Tryz.lays156 Tryz.Builder_Extra_156 bk o c xs sep w hcells hbk hN hcap hlen
end Go.Proofs
namespace Go.Proofs.YteijjaabngkbjaaGreatDoor.X
open Go.RowKit Te
set_option linter.unusedSimpArgs false
set_option linter.unusedVariables false
theorem shl12 (a : Int) : IntKind.u64.wrap (a * 4096) = a % 4503599627370496 * 4096 := by rw [IntKind.wrap_u64]; omega
theorem rcanon_any (a : Int) (ha : F.Fl.U a) (w : World) :
    Calls Tryz.prog 214 #[.int .u64 a] w fun e w' => e = .returned (.int .u64 (F.Fl.canonS a)) ∧ w = w' := by
  have k3 := F.and_exp (a / 4503599627370496) ⟨by obtain ⟨_, _⟩ := ha; omega, by obtain ⟨_, _⟩ := ha; omega⟩
  have k4 := shl12 a
  obtain ⟨h0, h1⟩ := ha
  go_enter Tryz.func214, Tryz.ntmps214
  go_wp2
  all_goals
    go_ret
    refine ⟨congrArg (fun z => Ending.returned (.int .u64 z)) ?_, rfl⟩
    try simp only [bne_iff_ne, beq_iff_eq, bne_eq_false_iff_eq, beq_eq_false_iff_ne, ne_eq] at *
    unfold F.Fl.canonS F.Fl.nan
    simp only [decide_eq_true_eq]
    split
    all_goals omega
set_option maxRecDepth 20000 in
theorem lit_any (vt vb : Int) (hb0 : 0 ≤ vb) (hb1 : vb < 18446744073709551616) (r : Bool) (hr : Hidden (litOk F.Fl.canonS vt vb = r)) (w : World) :
    Calls Tryz.prog 174 #[.agg #[ci vt, .int .u64 vb]] w fun e w' => e = .returned (.bool r) ∧ Fr (fun _ => False) w w' := by
  have kc := fun w => (rcanon_any vb ⟨hb0, hb1⟩ w).mono (fun e w' h => (⟨h.1, h.2.symm⟩ : _ ∧ w' = w))
  by_cases h2 : (vt == 2) = true
  · have h1 : (vt == 1) = false := by simp only [beq_iff_eq] at *; simp [h2]
    have e2 : vt = 2 := by simpa using h2
    by_cases hlt : vb < 9223372036854775808
    · have t1 : decide (vb < 9223372036854775808) = true := by simpa using hlt
      have hr1 : Hidden (decide (F.Fl.canonS vb = vb) = r) := by rw [← (show _ = r from hr)]; simp [Hidden, litOk, e2, hlt]
      clear e2 hr
      go_enter Tryz.func174, Tryz.ntmps174
      go_wp2_with fail
      go_quiet ((go_at_call 214; exact Calls.quiet_of_same (kc _)))
      go_wp2_with fail
      go_ret
      refine ⟨ret_bl ?_, drewN_fr (Fr.alloc _ _ _) _⟩
      rw [← (show _ = r from hr1)]
      rfl
    · have t1 : decide (vb < 9223372036854775808) = false := by simpa using hlt
      have hr1 : Hidden (false = r) := by rw [← (show _ = r from hr)]; simp [Hidden, litOk, e2, hlt]
      clear e2 hr
      go_enter Tryz.func174, Tryz.ntmps174
      go_wp2_with fail
      go_quiet ((go_at_call 214; exact Calls.quiet_of_same (kc _)))
      go_wp2_with fail
      go_ret
      exact ⟨ret_bl hr1, drewN_fr (Fr.alloc _ _ _) _⟩
  · have h2' : (vt == 2) = false := by simpa using h2
    clear h2
    go_enter Tryz.func174, Tryz.ntmps174
    go_wp2_with fail
    all_goals (go_ret; refine ⟨ret_bl ?_, Fr.alloc _ _ _⟩; rw [← (show _ = r from hr)]; clear hr)
    all_goals (simp only [beq_iff_eq, beq_eq_false_iff_ne, ne_eq] at *; simp [litOk, *])
theorem valued_any (t : Int) (r : Bool) (hr : Hidden (isTy t = r)) (w : World) : Calls Tryz.prog 88 #[ci t] w fun e w' => e = .returned (.bool r) ∧ w' = w := by
  go_enter Tryz.func88, Tryz.ntmps88
  go_wp2
  all_goals (go_ret; refine ⟨ret_bl ?_, rfl⟩; rw [← (show _ = r from hr)]; clear hr)
  all_goals (simp [isTy, *])
set_option maxRecDepth 20000 in
theorem zero_any (vt vb : Int) (r : Bool) (hr : Hidden (decide (vt = 0 ∧ vb = 0) = r)) (w : World) :
    Calls Tryz.prog 173 #[.agg #[ci vt, .int .u64 vb]] w fun e w' => e = .returned (.bool r) ∧ Fr (fun _ => False) w w' := by
  go_enter Tryz.func173, Tryz.ntmps173
  go_wp2
  all_goals
    go_ret
    refine ⟨ret_bl ?_, Fr.alloc _ _ _⟩
    rw [← (show _ = r from hr)]
    clear hr
    first | (simp [*]; done) | (simp only [beq_iff_eq, beq_eq_false_iff_ne, ne_eq] at *; simp [*]; done) | (rw [Bool.eq_iff_iff]; simp [*]; done)
set_option maxRecDepth 20000 in
set_option maxHeartbeats 4000000 in
theorem shaped_1 (op vt vb : Int) (mod name : Bs) (k : Nat) (hb0 : 0 ≤ vb) (hb1 : vb < 18446744073709551616) (ao : Option Addr) (cap : Nat) (hcap : k ≤ cap) (hmax : cap ≤ 9223372036854775807) (r : Bool) (hr : Hidden (fitsE F.Fl.canonS ⟨1, op, mod, name, vt, vb⟩ k = r)) (w : World) :
    Calls Tryz.prog 134 #[exV ⟨1, op, mod, name, vt, vb⟩ (.slice ao k cap)] w fun e w' => e = .returned (.bool r) ∧ Fr (fun _ => False) w w' := by
  have kl := fun w => lit_any vt vb hb0 hb1 _ rfl w
  have hbx : Hidden ((w.alloc (.cells #[ci 1, ci op, ct mod, ct name, ci vt, .int .u64 vb, .slice ao k cap] 59)).heap[w.heap.size]? = some (.cells #[ci 1, ci op, ct mod, ct name, ci vt, .int .u64 vb, .slice ao k cap] 59 (0, 0))) := alloc_new _ _
  have hr2 : Hidden ((litOk F.Fl.canonS vt vb && decide (op = 0 ∧ mod = [] ∧ name = [] ∧ k = 0)) = r) := hr
  clear hr
  by_cases hall : op = 0 ∧ mod = [] ∧ name = [] ∧ k = 0
  · obtain ⟨rfl, rfl, rfl, rfl⟩ := hall
    have hr3 : Hidden (litOk F.Fl.canonS vt vb = r) := by rw [← (show _ = r from hr2)]; simp [Hidden]
    clear hr2
    generalize litOk F.Fl.canonS vt vb = lo at kl hr3
    go_enter Tryz.func134, Tryz.ntmps134
    go_wp2_with (go_at_call 174; refine (kl _).mono ?_; rintro e w1 ⟨rfl, f1⟩)
    go_ret
    exact ⟨ret_bl hr3, (Fr.alloc _ _ _).same f1⟩
  · have hr3 : Hidden (false = r) := by rw [← (show _ = r from hr2)]; simp [Hidden, hall]
    clear hr2
    have hallH : Hidden (¬ (op = 0 ∧ mod = [] ∧ name = [] ∧ k = 0)) := hall
    clear hall
    go_enter Tryz.func134, Tryz.ntmps134
    go_wp2_with fail
    all_goals (first
      | (go_ret
         exact ⟨ret_bl hr3, Fr.alloc _ _ _⟩)
      | (exfalso
         apply (show ¬ _ from hallH)
         try simp only [bne_iff_ne, bne_eq_false_iff_eq, beq_iff_eq, beq_eq_false_iff_ne, ne_eq] at *
         simp [*]
         done))
set_option maxRecDepth 20000 in
set_option maxHeartbeats 4000000 in
theorem shaped_2 (op vt vb : Int) (mod name : Bs) (k : Nat) (ao : Option Addr) (cap : Nat) (hcap : k ≤ cap) (hmax : cap ≤ 9223372036854775807) (r : Bool) (hr : Hidden (fitsE F.Fl.canonS ⟨2, op, mod, name, vt, vb⟩ k = r)) (w : World) :
    Calls Tryz.prog 134 #[exV ⟨2, op, mod, name, vt, vb⟩ (.slice ao k cap)] w fun e w' => e = .returned (.bool r) ∧ Fr (fun _ => False) w w' := by
  have kz := fun w => zero_any vt vb _ rfl w
  have hbx : Hidden ((w.alloc (.cells #[ci 2, ci op, ct mod, ct name, ci vt, .int .u64 vb, .slice ao k cap] 59)).heap[w.heap.size]? = some (.cells #[ci 2, ci op, ct mod, ct name, ci vt, .int .u64 vb, .slice ao k cap] 59 (0, 0))) := alloc_new _ _
  have hz : (decide (vt = 0 ∧ vb = 0) = true ∧ Hidden (vt = 0 ∧ vb = 0)) ∨ (decide (vt = 0 ∧ vb = 0) = false ∧ Hidden (¬ (vt = 0 ∧ vb = 0))) := by
    by_cases h : vt = 0 ∧ vb = 0
    · exact Or.inl ⟨decide_eq_true h, h⟩
    · exact Or.inr ⟨decide_eq_false h, h⟩
  rcases Classical.em (mod = []) with rfl | hm0
  all_goals rcases hz with ⟨e0, hz⟩ | ⟨e0, hz⟩
  all_goals
    rw [e0] at kz
    clear e0
    go_enter Tryz.func134, Tryz.ntmps134
    go_wp2_with (go_at_call 173; refine (kz _).mono ?_; rintro e w1 ⟨rfl, f1⟩; obtain ⟨c0, c1, c2, c3, c4, c5, c6⟩ := ex_box (f1.heap hbx (fun f => f)))
    all_goals
      go_ret
      refine ⟨ret_bl ?_, ?_⟩
      · rw [← (show _ = r from hr)]
        clear hr kz
        unfold Hidden at hz
        try (obtain ⟨hz1, hz2⟩ := hz)
        try simp only [bne_iff_ne, bne_eq_false_iff_eq, beq_iff_eq, beq_eq_false_iff_ne, ne_eq] at *
        first | (simp [fitsE, *]; done) | (simp [fitsE, *]; omega) | (rw [Bool.eq_iff_iff]; simp [fitsE, *]; done) | (rw [Bool.eq_iff_iff]; simp [fitsE, *]; omega)
      · first | exact Fr.alloc _ _ _ | exact (Fr.alloc _ _ _).same f1
set_option maxRecDepth 20000 in
set_option maxHeartbeats 4000000 in
theorem shaped_3 (op vt vb : Int) (mod name : Bs) (k : Nat) (ao : Option Addr) (cap : Nat) (hcap : k ≤ cap) (hmax : cap ≤ 9223372036854775807) (r : Bool) (hr : Hidden (fitsE F.Fl.canonS ⟨3, op, mod, name, vt, vb⟩ k = r)) (w : World) :
    Calls Tryz.prog 134 #[exV ⟨3, op, mod, name, vt, vb⟩ (.slice ao k cap)] w fun e w' => e = .returned (.bool r) ∧ Fr (fun _ => False) w w' := by
  have kz := fun w => zero_any vt vb _ rfl w
  have hbx : Hidden ((w.alloc (.cells #[ci 3, ci op, ct mod, ct name, ci vt, .int .u64 vb, .slice ao k cap] 59)).heap[w.heap.size]? = some (.cells #[ci 3, ci op, ct mod, ct name, ci vt, .int .u64 vb, .slice ao k cap] 59 (0, 0))) := alloc_new _ _
  have hz : (decide (vt = 0 ∧ vb = 0) = true ∧ Hidden (vt = 0 ∧ vb = 0)) ∨ (decide (vt = 0 ∧ vb = 0) = false ∧ Hidden (¬ (vt = 0 ∧ vb = 0))) := by
    by_cases h : vt = 0 ∧ vb = 0
    · exact Or.inl ⟨decide_eq_true h, h⟩
    · exact Or.inr ⟨decide_eq_false h, h⟩
  rcases hz with ⟨e0, hz⟩ | ⟨e0, hz⟩
  all_goals
    rw [e0] at kz
    clear e0
    go_enter Tryz.func134, Tryz.ntmps134
    go_wp2_with (go_at_call 173; refine (kz _).mono ?_; rintro e w1 ⟨rfl, f1⟩; obtain ⟨c0, c1, c2, c3, c4, c5, c6⟩ := ex_box (f1.heap hbx (fun f => f)))
    all_goals
      go_ret
      refine ⟨ret_bl ?_, ?_⟩
      · rw [← (show _ = r from hr)]
        clear hr kz
        unfold Hidden at hz
        try (obtain ⟨hz1, hz2⟩ := hz)
        try simp only [bne_iff_ne, bne_eq_false_iff_eq, beq_iff_eq, beq_eq_false_iff_ne, ne_eq] at *
        first | (simp [fitsE, *]; done) | (simp [fitsE, *]; omega) | (rw [Bool.eq_iff_iff]; simp [fitsE, *]; done) | (rw [Bool.eq_iff_iff]; simp [fitsE, *]; omega)
      · first | exact Fr.alloc _ _ _ | exact (Fr.alloc _ _ _).same f1
set_option maxRecDepth 20000 in
set_option maxHeartbeats 4000000 in
theorem shaped_4 (op vt vb : Int) (mod name : Bs) (k : Nat) (ao : Option Addr) (cap : Nat) (hcap : k ≤ cap) (hmax : cap ≤ 9223372036854775807) (r : Bool) (hr : Hidden (fitsE F.Fl.canonS ⟨4, op, mod, name, vt, vb⟩ k = r)) (w : World) :
    Calls Tryz.prog 134 #[exV ⟨4, op, mod, name, vt, vb⟩ (.slice ao k cap)] w fun e w' => e = .returned (.bool r) ∧ Fr (fun _ => False) w w' := by
  have kz := fun w => zero_any vt vb _ rfl w
  have hbx : Hidden ((w.alloc (.cells #[ci 4, ci op, ct mod, ct name, ci vt, .int .u64 vb, .slice ao k cap] 59)).heap[w.heap.size]? = some (.cells #[ci 4, ci op, ct mod, ct name, ci vt, .int .u64 vb, .slice ao k cap] 59 (0, 0))) := alloc_new _ _
  have hz : (decide (vt = 0 ∧ vb = 0) = true ∧ Hidden (vt = 0 ∧ vb = 0)) ∨ (decide (vt = 0 ∧ vb = 0) = false ∧ Hidden (¬ (vt = 0 ∧ vb = 0))) := by
    by_cases h : vt = 0 ∧ vb = 0
    · exact Or.inl ⟨decide_eq_true h, h⟩
    · exact Or.inr ⟨decide_eq_false h, h⟩
  rcases Classical.em (mod = []) with rfl | hm0
  all_goals rcases hz with ⟨e0, hz⟩ | ⟨e0, hz⟩
  all_goals
    rw [e0] at kz
    clear e0
    go_enter Tryz.func134, Tryz.ntmps134
    go_wp2_with (go_at_call 173; refine (kz _).mono ?_; rintro e w1 ⟨rfl, f1⟩; obtain ⟨c0, c1, c2, c3, c4, c5, c6⟩ := ex_box (f1.heap hbx (fun f => f)))
    all_goals
      go_ret
      refine ⟨ret_bl ?_, ?_⟩
      · rw [← (show _ = r from hr)]
        clear hr kz
        unfold Hidden at hz
        try (obtain ⟨hz1, hz2⟩ := hz)
        try simp only [bne_iff_ne, bne_eq_false_iff_eq, beq_iff_eq, beq_eq_false_iff_ne, ne_eq] at *
        first | (simp [fitsE, *]; done) | (simp [fitsE, *]; omega) | (rw [Bool.eq_iff_iff]; simp [fitsE, *]; done) | (rw [Bool.eq_iff_iff]; simp [fitsE, *]; omega)
      · first | exact Fr.alloc _ _ _ | exact (Fr.alloc _ _ _).same f1
set_option maxRecDepth 20000 in
set_option maxHeartbeats 4000000 in
theorem shaped_5 (op vt vb : Int) (mod name : Bs) (k : Nat) (ao : Option Addr) (cap : Nat) (hcap : k ≤ cap) (hmax : cap ≤ 9223372036854775807) (r : Bool) (hr : Hidden (fitsE F.Fl.canonS ⟨5, op, mod, name, vt, vb⟩ k = r)) (w : World) :
    Calls Tryz.prog 134 #[exV ⟨5, op, mod, name, vt, vb⟩ (.slice ao k cap)] w fun e w' => e = .returned (.bool r) ∧ Fr (fun _ => False) w w' := by
  have kz := fun w => zero_any vt vb _ rfl w
  have hbx : Hidden ((w.alloc (.cells #[ci 5, ci op, ct mod, ct name, ci vt, .int .u64 vb, .slice ao k cap] 59)).heap[w.heap.size]? = some (.cells #[ci 5, ci op, ct mod, ct name, ci vt, .int .u64 vb, .slice ao k cap] 59 (0, 0))) := alloc_new _ _
  have hz : (decide (vt = 0 ∧ vb = 0) = true ∧ Hidden (vt = 0 ∧ vb = 0)) ∨ (decide (vt = 0 ∧ vb = 0) = false ∧ Hidden (¬ (vt = 0 ∧ vb = 0))) := by
    by_cases h : vt = 0 ∧ vb = 0
    · exact Or.inl ⟨decide_eq_true h, h⟩
    · exact Or.inr ⟨decide_eq_false h, h⟩
  rcases hz with ⟨e0, hz⟩ | ⟨e0, hz⟩
  all_goals
    rw [e0] at kz
    clear e0
    go_enter Tryz.func134, Tryz.ntmps134
    go_wp2_with (go_at_call 173; refine (kz _).mono ?_; rintro e w1 ⟨rfl, f1⟩; obtain ⟨c0, c1, c2, c3, c4, c5, c6⟩ := ex_box (f1.heap hbx (fun f => f)))
    all_goals
      go_ret
      refine ⟨ret_bl ?_, ?_⟩
      · rw [← (show _ = r from hr)]
        clear hr kz
        unfold Hidden at hz
        try (obtain ⟨hz1, hz2⟩ := hz)
        try simp only [bne_iff_ne, bne_eq_false_iff_eq, beq_iff_eq, beq_eq_false_iff_ne, ne_eq] at *
        first | (simp [fitsE, *]; done) | (simp [fitsE, *]; omega) | (rw [Bool.eq_iff_iff]; simp [fitsE, *]; done) | (rw [Bool.eq_iff_iff]; simp [fitsE, *]; omega)
      · first | exact Fr.alloc _ _ _ | exact (Fr.alloc _ _ _).same f1
set_option maxRecDepth 20000 in
set_option maxHeartbeats 4000000 in
theorem shaped_6 (op vt vb : Int) (mod name : Bs) (k : Nat) (ao : Option Addr) (cap : Nat) (hcap : k ≤ cap) (hmax : cap ≤ 9223372036854775807) (r : Bool) (hr : Hidden (fitsE F.Fl.canonS ⟨6, op, mod, name, vt, vb⟩ k = r)) (w : World) :
    Calls Tryz.prog 134 #[exV ⟨6, op, mod, name, vt, vb⟩ (.slice ao k cap)] w fun e w' => e = .returned (.bool r) ∧ Fr (fun _ => False) w w' := by
  have kz := fun w => zero_any vt vb _ rfl w
  have hbx : Hidden ((w.alloc (.cells #[ci 6, ci op, ct mod, ct name, ci vt, .int .u64 vb, .slice ao k cap] 59)).heap[w.heap.size]? = some (.cells #[ci 6, ci op, ct mod, ct name, ci vt, .int .u64 vb, .slice ao k cap] 59 (0, 0))) := alloc_new _ _
  have hz : (decide (vt = 0 ∧ vb = 0) = true ∧ Hidden (vt = 0 ∧ vb = 0)) ∨ (decide (vt = 0 ∧ vb = 0) = false ∧ Hidden (¬ (vt = 0 ∧ vb = 0))) := by
    by_cases h : vt = 0 ∧ vb = 0
    · exact Or.inl ⟨decide_eq_true h, h⟩
    · exact Or.inr ⟨decide_eq_false h, h⟩
  rcases Classical.em (name = []) with rfl | hn0
  all_goals rcases Classical.em (mod = []) with rfl | hm0
  all_goals rcases hz with ⟨e0, hz⟩ | ⟨e0, hz⟩
  all_goals
    rw [e0] at kz
    clear e0
    go_enter Tryz.func134, Tryz.ntmps134
    go_wp2_with (go_at_call 173; refine (kz _).mono ?_; rintro e w1 ⟨rfl, f1⟩; obtain ⟨c0, c1, c2, c3, c4, c5, c6⟩ := ex_box (f1.heap hbx (fun f => f)))
    all_goals
      go_ret
      refine ⟨ret_bl ?_, ?_⟩
      · rw [← (show _ = r from hr)]
        clear hr kz
        unfold Hidden at hz
        try (obtain ⟨hz1, hz2⟩ := hz)
        try simp only [bne_iff_ne, bne_eq_false_iff_eq, beq_iff_eq, beq_eq_false_iff_ne, ne_eq] at *
        first | (simp [fitsE, *]; done) | (simp [fitsE, *]; omega) | (rw [Bool.eq_iff_iff]; simp [fitsE, *]; done) | (rw [Bool.eq_iff_iff]; simp [fitsE, *]; omega)
      · first | exact Fr.alloc _ _ _ | exact (Fr.alloc _ _ _).same f1
set_option maxRecDepth 20000 in
set_option maxHeartbeats 4000000 in
theorem shaped_7 (op vt vb : Int) (mod name : Bs) (k : Nat) (ao : Option Addr) (cap : Nat) (hcap : k ≤ cap) (hmax : cap ≤ 9223372036854775807) (r : Bool) (hr : Hidden (fitsE F.Fl.canonS ⟨7, op, mod, name, vt, vb⟩ k = r)) (w : World) :
    Calls Tryz.prog 134 #[exV ⟨7, op, mod, name, vt, vb⟩ (.slice ao k cap)] w fun e w' => e = .returned (.bool r) ∧ Fr (fun _ => False) w w' := by
  have kz := fun w => zero_any vt vb _ rfl w
  have hbx : Hidden ((w.alloc (.cells #[ci 7, ci op, ct mod, ct name, ci vt, .int .u64 vb, .slice ao k cap] 59)).heap[w.heap.size]? = some (.cells #[ci 7, ci op, ct mod, ct name, ci vt, .int .u64 vb, .slice ao k cap] 59 (0, 0))) := alloc_new _ _
  have hz : (decide (vt = 0 ∧ vb = 0) = true ∧ Hidden (vt = 0 ∧ vb = 0)) ∨ (decide (vt = 0 ∧ vb = 0) = false ∧ Hidden (¬ (vt = 0 ∧ vb = 0))) := by
    by_cases h : vt = 0 ∧ vb = 0
    · exact Or.inl ⟨decide_eq_true h, h⟩
    · exact Or.inr ⟨decide_eq_false h, h⟩
  rcases Classical.em (name = []) with rfl | hn0
  all_goals rcases Classical.em (mod = []) with rfl | hm0
  all_goals rcases hz with ⟨e0, hz⟩ | ⟨e0, hz⟩
  all_goals
    rw [e0] at kz
    clear e0
    go_enter Tryz.func134, Tryz.ntmps134
    go_wp2_with (go_at_call 173; refine (kz _).mono ?_; rintro e w1 ⟨rfl, f1⟩; obtain ⟨c0, c1, c2, c3, c4, c5, c6⟩ := ex_box (f1.heap hbx (fun f => f)))
    all_goals
      go_ret
      refine ⟨ret_bl ?_, ?_⟩
      · rw [← (show _ = r from hr)]
        clear hr kz
        unfold Hidden at hz
        try (obtain ⟨hz1, hz2⟩ := hz)
        try simp only [bne_iff_ne, bne_eq_false_iff_eq, beq_iff_eq, beq_eq_false_iff_ne, ne_eq] at *
        first | (simp [fitsE, *]; done) | (simp [fitsE, *]; omega) | (rw [Bool.eq_iff_iff]; simp [fitsE, *]; done) | (rw [Bool.eq_iff_iff]; simp [fitsE, *]; omega)
      · first | exact Fr.alloc _ _ _ | exact (Fr.alloc _ _ _).same f1
set_option maxRecDepth 20000 in
set_option maxHeartbeats 4000000 in
theorem shaped_8 (op vt vb : Int) (mod name : Bs) (k : Nat) (ao : Option Addr) (cap : Nat) (hcap : k ≤ cap) (hmax : cap ≤ 9223372036854775807) (r : Bool) (hr : Hidden (fitsE F.Fl.canonS ⟨8, op, mod, name, vt, vb⟩ k = r)) (w : World) :
    Calls Tryz.prog 134 #[exV ⟨8, op, mod, name, vt, vb⟩ (.slice ao k cap)] w fun e w' => e = .returned (.bool r) ∧ Fr (fun _ => False) w w' := by
  have kz := fun w => zero_any vt vb _ rfl w
  have hbx : Hidden ((w.alloc (.cells #[ci 8, ci op, ct mod, ct name, ci vt, .int .u64 vb, .slice ao k cap] 59)).heap[w.heap.size]? = some (.cells #[ci 8, ci op, ct mod, ct name, ci vt, .int .u64 vb, .slice ao k cap] 59 (0, 0))) := alloc_new _ _
  have hz : (decide (vt = 0 ∧ vb = 0) = true ∧ Hidden (vt = 0 ∧ vb = 0)) ∨ (decide (vt = 0 ∧ vb = 0) = false ∧ Hidden (¬ (vt = 0 ∧ vb = 0))) := by
    by_cases h : vt = 0 ∧ vb = 0
    · exact Or.inl ⟨decide_eq_true h, h⟩
    · exact Or.inr ⟨decide_eq_false h, h⟩
  rcases Classical.em (name = []) with rfl | hn0
  all_goals rcases Classical.em (mod = []) with rfl | hm0
  all_goals rcases hz with ⟨e0, hz⟩ | ⟨e0, hz⟩
  all_goals
    rw [e0] at kz
    clear e0
    go_enter Tryz.func134, Tryz.ntmps134
    go_wp2_with (go_at_call 173; refine (kz _).mono ?_; rintro e w1 ⟨rfl, f1⟩; obtain ⟨c0, c1, c2, c3, c4, c5, c6⟩ := ex_box (f1.heap hbx (fun f => f)))
    all_goals
      go_ret
      refine ⟨ret_bl ?_, ?_⟩
      · rw [← (show _ = r from hr)]
        clear hr kz
        unfold Hidden at hz
        try (obtain ⟨hz1, hz2⟩ := hz)
        try simp only [bne_iff_ne, bne_eq_false_iff_eq, beq_iff_eq, beq_eq_false_iff_ne, ne_eq] at *
        first | (simp [fitsE, *]; done) | (simp [fitsE, *]; omega) | (rw [Bool.eq_iff_iff]; simp [fitsE, *]; done) | (rw [Bool.eq_iff_iff]; simp [fitsE, *]; omega)
      · first | exact Fr.alloc _ _ _ | exact (Fr.alloc _ _ _).same f1
set_option maxRecDepth 20000 in
set_option maxHeartbeats 4000000 in
theorem shaped_no (kind op vt vb : Int) (mod name : Bs) (k : Nat) (hk : ¬ (1 ≤ kind ∧ kind ≤ 8)) (ao : Option Addr) (cap : Nat) (hcap : k ≤ cap) (hmax : cap ≤ 9223372036854775807) (r : Bool) (hr : Hidden (fitsE F.Fl.canonS ⟨kind, op, mod, name, vt, vb⟩ k = r)) (w : World) :
    Calls Tryz.prog 134 #[exV ⟨kind, op, mod, name, vt, vb⟩ (.slice ao k cap)] w fun e w' => e = .returned (.bool r) ∧ Fr (fun _ => False) w w' := by
  have n1 : (kind == 1) = false := by simp only [beq_eq_false_iff_ne, ne_eq]; omega
  have n2 : (kind == 2) = false := by simp only [beq_eq_false_iff_ne, ne_eq]; omega
  have n3 : (kind == 3) = false := by simp only [beq_eq_false_iff_ne, ne_eq]; omega
  have n4 : (kind == 4) = false := by simp only [beq_eq_false_iff_ne, ne_eq]; omega
  have n5 : (kind == 5) = false := by simp only [beq_eq_false_iff_ne, ne_eq]; omega
  have n6 : (kind == 6) = false := by simp only [beq_eq_false_iff_ne, ne_eq]; omega
  have n7 : (kind == 7) = false := by simp only [beq_eq_false_iff_ne, ne_eq]; omega
  have n8 : (kind == 8) = false := by simp only [beq_eq_false_iff_ne, ne_eq]; omega
  have p1 : (kind != 1) = true := by rw [bne, n1]; rfl
  have p6 : (kind != 6) = true := by rw [bne, n6]; rfl
  have p7 : (kind != 7) = true := by rw [bne, n7]; rfl
  have hr2 : Hidden (false = r) := by
    rw [← (show _ = r from hr)]
    simp only [beq_eq_false_iff_ne, ne_eq] at n1 n2 n3 n4 n5 n6 n7 n8
    simp [Hidden, fitsE, n1, n2, n3, n4, n5, n6, n7, n8]
  clear hr hk
  have kz := fun w => zero_any vt vb _ rfl w
  have hbx : Hidden ((w.alloc (.cells #[ci kind, ci op, ct mod, ct name, ci vt, .int .u64 vb, .slice ao k cap] 59)).heap[w.heap.size]? = some (.cells #[ci kind, ci op, ct mod, ct name, ci vt, .int .u64 vb, .slice ao k cap] 59 (0, 0))) := alloc_new _ _
  rcases Classical.em (name = []) with rfl | hn0
  all_goals rcases Classical.em (mod = []) with rfl | hm0
  all_goals cases e0 : decide (vt = 0 ∧ vb = 0)
  all_goals
    rw [e0] at kz
    clear e0
    go_enter Tryz.func134, Tryz.ntmps134
    go_wp2_with (go_at_call 173; refine (kz _).mono ?_; rintro e w1 ⟨rfl, f1⟩; obtain ⟨c0, c1, c2, c3, c4, c5, c6⟩ := ex_box (f1.heap hbx (fun f => f)))
    all_goals
      go_ret
      refine ⟨ret_bl hr2, ?_⟩
      first | exact Fr.alloc _ _ _ | exact (Fr.alloc _ _ _).same f1
theorem shaped_any (h : EH) (k : Nat) (hok : OkE h) (ao : Option Addr) (cap : Nat) (hcap : k ≤ cap) (hmax : cap ≤ 9223372036854775807) (r : Bool) (hr : fitsE F.Fl.canonS h k = r) (w : World) :
    Calls Tryz.prog 134 #[exV h (.slice ao k cap)] w fun e w' => e = .returned (.bool r) ∧ Fr (fun _ => False) w w' := by
  obtain ⟨kind, op, mod, name, vt, vb⟩ := h
  by_cases hk : 1 ≤ kind ∧ kind ≤ 8
  · obtain rfl | rfl | rfl | rfl | rfl | rfl | rfl | rfl : kind = 1 ∨ kind = 2 ∨ kind = 3 ∨ kind = 4 ∨ kind = 5 ∨ kind = 6 ∨ kind = 7 ∨ kind = 8 := by omega
    · exact shaped_1 op vt vb mod name k hok.vb0 hok.vb1 ao cap hcap hmax r hr w
    · exact shaped_2 op vt vb mod name k ao cap hcap hmax r hr w
    · exact shaped_3 op vt vb mod name k ao cap hcap hmax r hr w
    · exact shaped_4 op vt vb mod name k ao cap hcap hmax r hr w
    · exact shaped_5 op vt vb mod name k ao cap hcap hmax r hr w
    · exact shaped_6 op vt vb mod name k ao cap hcap hmax r hr w
    · exact shaped_7 op vt vb mod name k ao cap hcap hmax r hr w
    · exact shaped_8 op vt vb mod name k ao cap hcap hmax r hr w
  · exact shaped_no kind op vt vb mod name k hk ao cap hcap hmax r hr w
end Go.Proofs.YteijjaabngkbjaaGreatDoor.X
