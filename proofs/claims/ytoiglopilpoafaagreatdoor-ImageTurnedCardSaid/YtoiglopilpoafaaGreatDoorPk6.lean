/- Texts of ours, in one. -/
import Derived.Test.YtoiglopilpoafaaGreatDoorPk5
import Derived.Shelf.Strconv.Itoa0
import Derived.Shelf.Strconv.Itoa1
import Derived.Shelf.LaysM
import Derived.Shelf.Strconv.Itoa2
import Derived.Shelf.Strconv.Itoa3
import Derived.Shelf.Strconv.Itoa4
import Derived.Shelf.Strings.LastIndex
import Derived.Shelf.Strings.Prefix
import Derived.Shelf.Bytes.SlIndexAt
import Derived.Shelf.Bytes.Small
import Derived.Shelf.Bytes.IndexByte
import Derived.Test.YtoiglopilpoafaaGreatDoorProg
namespace Go.Proofs.YtoiglopilpoafaaGreatDoor.Cd
open Go.RowKit Ty
set_option linter.unusedSimpArgs false
set_option linter.unusedVariables false

/-- An instruction. -/
structure In where
  op : Int
  n : Int
  t : Int
  b : Int
deriving DecidableEq
instance : Inhabited In := ⟨⟨0, 0, 0, 0⟩⟩
/-- A signature. -/
structure Sg where
  ps : List Int
  res : Int
/-- A function. -/
structure Fu where
  sg : Sg
  loc : List Int
  cd : List In
/-- The program that it stands in. -/
structure Fm where
  fns : List Sg
  vars : List Int
/-- A shape: the stack, from below, and the open tries. -/
structure Sp where
  st : List Int
  tr : List (Int × List Int)
deriving DecidableEq
instance : Inhabited Sp := ⟨⟨[], []⟩⟩
/-- How many bytes N has. -/
def wd (op : Int) : Nat :=
  if op = 2 ∨ op = 3 ∨ op = 6 ∨ op = 7 then 1 else if op = 4 ∨ op = 5 ∨ op = 8 ∨ op = 9 ∨ op = 10 ∨ op = 15 then 2 else 0
def lo (op : Int) : Int := if op = 6 ∨ op = 7 then 1 else 0
def hi (op : Int) : Int := if op = 6 then 4 else if op = 7 then 11 else if wd op = 1 then 255 else if wd op = 2 then 65535 else 0
def known (op : Int) : Bool := decide (1 ≤ op ∧ op ≤ 17)
def sizeS (op : Int) : Int := if known op then (if op = 1 then 10 else 1 + (wd op : Int)) else 0
/-- The stack without these on top. -/
def tk (st l : List Int) : Option (List Int) :=
  if l.length ≤ st.length ∧ st.drop (st.length - l.length) = l then some (st.take (st.length - l.length)) else none
/-- The stack without its top, and that. -/
def tp (st : List Int) : Option (List Int × Int) := match st.getLast? with
  | none => none
  | some t => some (st.dropLast, t)
def on (s : Sp) (st : List Int) : Option (Option Sp × Option Sp) := some (some ⟨st, s.tr⟩, none)
/-- What an instruction makes of the shape ahead of it: at the next one, at N. -/
def stepS (f : Fu) (p : Fm) (i : In) (s : Sp) : Option (Option Sp × Option Sp) :=
  if i.op = 1 then on s (s.st ++ [i.t])
  else if i.op = 2 then (f.loc[i.n.toNat]?).bind fun t => on s (s.st ++ [t])
  else if i.op = 3 then (f.loc[i.n.toNat]?).bind fun t => (tk s.st [t]).bind fun r => on s r
  else if i.op = 4 then (p.vars[i.n.toNat]?).bind fun t => on s (s.st ++ [t])
  else if i.op = 5 then (p.vars[i.n.toNat]?).bind fun t => (tk s.st [t]).bind fun r => on s r
  else if i.op = 6 then (tp s.st).bind fun x => if (unS i.n x.2).2 = 0 then on s (x.1 ++ [(unS i.n x.2).1]) else none
  else if i.op = 7 then (tp s.st).bind fun x => (tp x.1).bind fun y => if (binS i.n y.2 x.2).2 = 0 then on s (y.1 ++ [(binS i.n y.2 x.2).1]) else none
  else if i.op = 8 then some (none, some s)
  else if i.op = 9 then (tk s.st [3]).bind fun r => some (some ⟨r, s.tr⟩, some ⟨r, s.tr⟩)
  else if i.op = 10 then (p.fns[i.n.toNat]?).bind fun g => (tk s.st g.ps).bind fun r => on s (if g.res = 0 then r else r ++ [g.res])
  else if i.op = 11 then (if f.sg.res = 0 then some (none, none) else (tk s.st [f.sg.res]).bind fun _ => some (none, none))
  else if i.op = 12 then (tp s.st).bind fun x => on s x.1
  else if i.op = 13 then (tk s.st [1]).bind fun _ => some (none, none)
  else if i.op = 14 then on s (s.st ++ [1])
  else if i.op = 15 then some (some ⟨s.st, s.tr ++ [(i.n, s.st)]⟩, some ⟨s.st ++ [1], s.tr⟩)
  else if i.op = 16 then (if s.tr = [] then none else some (some ⟨s.st, s.tr.dropLast⟩, none))
  else (tp s.st).bind fun x => on s x.1
def over (s : Sp) : Bool := decide (512 < s.st.length) || decide (32 < s.tr.length)
/-- Of each place: nothing, or whether it was gone through and its shape. -/
abbrev Cs := List (Option (Bool × Sp))
def leastS : Cs → Option (Nat × Sp)
  | [] => none
  | some (false, s) :: _ => some (0, s)
  | _ :: r => (leastS r).map fun x => (x.1 + 1, x.2)
def noteS (L : Cs) (k : Nat) (s : Sp) : Option Cs := match L[k]? with
  | none => none
  | some none => some (L.set k (some (false, s)))
  | some (some (_, s')) => if s' = s then some L else none
def noteO (L : Cs) (k : Nat) : Option Sp → Option Cs
  | none => some L
  | some s => noteS L k s
def anyO (a : Option Sp) : Bool := match a with
  | none => false
  | some s => over s
/-- One place gone through. -/
def roundS (f : Fu) (p : Fm) (L : Cs) (k : Nat) (s : Sp) : Except Int Cs :=
  match stepS f p (f.cd.getD k default) s with
  | none => .error 51
  | some (a, b) =>
    if (a.isSome && decide (f.cd.length ≤ k + 1)) || (b.isSome && decide ((f.cd.length : Int) ≤ (f.cd.getD k default).n)) then .error 51
    else if anyO a || anyO b then .error 3
    else match noteO (L.set k (some (true, s))) (k + 1) a with
      | none => .error 22
      | some L1 => match noteO L1 (f.cd.getD k default).n.toNat b with
        | none => .error 22
        | some L2 => .ok L2
inductive Rs where
  | ok (L : Cs)
  | er (k : Nat) (e : Int)
def goS (f : Fu) (p : Fm) : Nat → Cs → Option Rs
  | 0, _ => none
  | j + 1, L => match leastS L with
    | none => some (.ok L)
    | some (k, s) => match roundS f p L k s with
      | .error e => some (.er k e)
      | .ok L' => goS f p j L'
def startS (n : Nat) : Cs := (List.replicate n none).set 0 (some (false, ⟨[], []⟩))
def sgS (s : Sg) : Bool := s.ps.all valued && (s.res == 0 || valued s.res)
/-- All but the instructions. -/
def outS (f : Fu) (p : Fm) : Int :=
  if 8 < f.sg.ps.length ∨ 64 < f.loc.length ∨ 4096 < f.cd.length then 3
  else if f.cd = [] ∨ f.loc.length < f.sg.ps.length ∨ f.loc.take f.sg.ps.length ≠ f.sg.ps ∨ f.loc.all valued = false ∨ sgS f.sg = false ∨ p.vars.all valued = false ∨ p.fns.all sgS = false then 51 else 0
def gone : Option (Bool × Sp) → Bool
  | some (true, _) => true
  | _ => false
def notgone (L : Cs) : Nat := (L.filter fun c => !gone c).length

theorem leastS_at : ∀ {L : Cs} {k : Nat} {s : Sp}, leastS L = some (k, s) → L[k]? = some (some (false, s)) ∧ ∀ j : Nat, j < k → ∀ x, L[j]? ≠ some (some (false, x))
  | [], k, s, h => by simp [leastS] at h
  | some (false, s') :: r, k, s, h => by
    simp only [leastS, Option.some.injEq, Prod.mk.injEq] at h
    obtain ⟨rfl, rfl⟩ := h
    exact ⟨rfl, fun j hj => absurd hj (by omega)⟩
  | none :: r, k, s, h => by
    simp only [leastS, Option.map_eq_some_iff] at h
    obtain ⟨⟨k', s'⟩, h1, h2⟩ := h
    simp only [Prod.mk.injEq] at h2
    obtain ⟨rfl, rfl⟩ := h2
    obtain ⟨g1, g2⟩ := leastS_at h1
    refine ⟨by simpa using g1, fun j hj x => ?_⟩
    cases j with
    | zero => simp
    | succ j => simpa using g2 j (by omega) x
  | some (true, z) :: r, k, s, h => by
    simp only [leastS, Option.map_eq_some_iff] at h
    obtain ⟨⟨k', s'⟩, h1, h2⟩ := h
    simp only [Prod.mk.injEq] at h2
    obtain ⟨rfl, rfl⟩ := h2
    obtain ⟨g1, g2⟩ := leastS_at h1
    refine ⟨by simpa using g1, fun j hj x => ?_⟩
    cases j with
    | zero => simp
    | succ j => simpa using g2 j (by omega) x
theorem leastS_no : ∀ {L : Cs}, leastS L = none → ∀ (j : Nat) x, L[j]? ≠ some (some (false, x))
  | [], h, j, x => by simp
  | some (false, s') :: r, h, j, x => by simp [leastS] at h
  | none :: r, h, j, x => by
    simp only [leastS, Option.map_eq_none_iff] at h
    cases j with
    | zero => simp
    | succ j => simpa using leastS_no h j x
  | some (true, z) :: r, h, j, x => by
    simp only [leastS, Option.map_eq_none_iff] at h
    cases j with
    | zero => simp
    | succ j => simpa using leastS_no h j x
theorem leastS_of : ∀ {L : Cs} {k : Nat} {s : Sp}, L[k]? = some (some (false, s)) → (∀ j : Nat, j < k → ∀ x, L[j]? ≠ some (some (false, x))) → leastS L = some (k, s)
  | [], k, s, h, _ => by simp at h
  | c :: r, 0, s, h, _ => by
    simp at h
    subst h
    rfl
  | c :: r, k + 1, s, h, g => by
    have h' : r[k]? = some (some (false, s)) := by simpa using h
    have g' : ∀ j : Nat, j < k → ∀ x, r[j]? ≠ some (some (false, x)) := fun j hj x => by simpa using g (j + 1) (by omega) x
    have e := leastS_of h' g'
    have c0 : ∀ x, c ≠ some (false, x) := fun x hx => g 0 (by omega) x (by simp [hx])
    cases c with
    | none => simp [leastS, e]
    | some z =>
      obtain ⟨b, z⟩ := z
      cases b with
      | false => exact absurd rfl (c0 z)
      | true => simp [leastS, e]
theorem leastS_none : ∀ {L : Cs}, (∀ (j : Nat) x, L[j]? ≠ some (some (false, x))) → leastS L = none
  | [], _ => rfl
  | c :: r, g => by
    have e := leastS_none (L := r) (fun j x => by simpa using g (j + 1) x)
    have c0 : ∀ x, c ≠ some (false, x) := fun x hx => g 0 x (by simp [hx])
    cases c with
    | none => simp [leastS, e]
    | some z =>
      obtain ⟨b, z⟩ := z
      cases b with
      | false => exact absurd rfl (c0 z)
      | true => simp [leastS, e]
theorem notgone_set : ∀ {L : Cs} {k : Nat} {c d : Option (Bool × Sp)}, L[k]? = some c → notgone (L.set k d) + (if gone c then 0 else 1) = notgone L + (if gone d then 0 else 1)
  | [], k, c, d, h => by simp at h
  | x :: r, 0, c, d, h => by
    simp at h
    subst h
    simp only [List.set_cons_zero, notgone, List.filter_cons]
    cases gone x <;> cases gone d <;> simp
  | x :: r, k + 1, c, d, h => by
    have e := notgone_set (L := r) (k := k) (c := c) (d := d) (by simpa using h)
    simp only [List.set_cons_succ, notgone, List.filter_cons] at e ⊢
    cases gone x <;> simp at e ⊢ <;> omega
theorem noteS_len {L L' : Cs} {k : Nat} {s : Sp} (h : noteS L k s = some L') : L'.length = L.length ∧ notgone L' = notgone L := by
  unfold noteS at h
  split at h
  · cases h
  · rename_i h0
    cases h
    have := notgone_set (d := some (false, s)) h0
    exact ⟨by simp, by simpa [gone] using this⟩
  · split at h
    · cases h; exact ⟨rfl, rfl⟩
    · cases h
theorem noteO_len {L L' : Cs} {k : Nat} {a : Option Sp} (h : noteO L k a = some L') : L'.length = L.length ∧ notgone L' = notgone L := by
  cases a with
  | none => cases h; exact ⟨rfl, rfl⟩
  | some s => exact noteS_len h
theorem roundS_len {f : Fu} {p : Fm} {L L' : Cs} {k : Nat} {s : Sp} (hl : L[k]? = some (some (false, s))) (h : roundS f p L k s = .ok L') : L'.length = L.length ∧ notgone L' + 1 = notgone L := by
  unfold roundS at h
  split at h
  · cases h
  split at h
  · cases h
  split at h
  · cases h
  split at h
  · cases h
  split at h
  · cases h
  · rename_i h1 _ _ h2
    cases h
    have a1 := noteO_len h1
    have a2 := noteO_len h2
    have a3 := notgone_set (d := some (true, s)) hl
    simp [gone] at a3
    refine ⟨by rw [a2.1, a1.1]; simp, by rw [a2.2, a1.2]; omega⟩
/-- With as much fuel as there are places it comes to an end. -/
theorem goS_all (f : Fu) (p : Fm) : ∀ (j : Nat) (L : Cs), notgone L < j → ∃ r, goS f p j L = some r
  | 0, L, h => absurd h (by omega)
  | j + 1, L, h => by
    unfold goS
    cases e : leastS L with
    | none => exact ⟨_, rfl⟩
    | some x =>
      obtain ⟨k, s⟩ := x
      simp only []
      cases e2 : roundS f p L k s with
      | error e => exact ⟨_, rfl⟩
      | ok L' =>
        have := (roundS_len (leastS_at e).1 e2).2
        exact goS_all f p j L' (by omega)
theorem notgone_le (L : Cs) : notgone L ≤ L.length := List.length_filter_le _ _
/-- More fuel changes nothing. -/
theorem goS_more (f : Fu) (p : Fm) : ∀ (j : Nat) (L : Cs) (r : Rs), goS f p j L = some r → goS f p (j + 1) L = some r
  | 0, L, r, h => by cases h
  | j + 1, L, r, h => by
    unfold goS at h ⊢
    cases e : leastS L with
    | none => rw [e] at h; exact h
    | some x =>
      obtain ⟨k, s⟩ := x
      rw [e] at h
      simp only [] at h ⊢
      cases e2 : roundS f p L k s with
      | error e => rw [e2] at h; exact h
      | ok L' => rw [e2] at h; exact goS_more f p j L' r h
theorem goS_le (f : Fu) (p : Fm) {j j' : Nat} (hj : j ≤ j') {L : Cs} {r : Rs} (h : goS f p j L = some r) : goS f p j' L = some r := by
  induction j' with
  | zero =>
    have : j = 0 := by omega
    subst this; cases h
  | succ j' ih =>
    by_cases e : j = j' + 1
    · subst e; exact h
    · exact goS_more f p j' L r (ih (by omega))
theorem goS_one (f : Fu) (p : Fm) {j j' : Nat} {L : Cs} {r r' : Rs} (h : goS f p j L = some r) (h' : goS f p j' L = some r') : r = r' := by
  have a := goS_le f p (Nat.le_max_left j j') h
  have b := goS_le f p (Nat.le_max_right j j') h'
  rw [a] at b
  exact Option.some.inj b
/-- What the whole comes to. -/
def foundS (f : Fu) (p : Fm) (bad : Option Nat) : Rs :=
  if outS f p ≠ 0 then .er 0 (outS f p) else match bad with
  | some k => .er k 51
  | none => (goS f p (f.cd.length + 1) (startS f.cd.length)).getD (.er 0 0)
def placeS : Rs → Int
  | .ok _ => 0
  | .er k _ => k
def errS : Rs → Int
  | .ok _ => 0
  | .er _ e => e
def shapeS (r : Rs) (at' : Int) : Option Sp := match r with
  | .er _ _ => none
  | .ok L => if at' < 0 then none else match L[at'.toNat]? with
    | some (some (_, s)) => some s
    | _ => none
end Go.Proofs.YtoiglopilpoafaaGreatDoor.Cd

namespace Go.Proofs.YtoiglopilpoafaaGreatDoor.Ty
open Go.RowKit
set_option linter.unusedSimpArgs false
set_option linter.unusedVariables false

/-- A row of ints. -/
def InL (w : World) (ao : Option Addr) (cap : Nat) (l : List Int) : Prop :=
  l.length ≤ cap ∧ cap ≤ maxLen ∧ (ao = none → cap = 0) ∧ (l = [] ∨ ∃ b off, ao = some ⟨b, off, none⟩ ∧ ∀ (i : Nat) (x : Int), l[i]? = some x → w.cell? ⟨b, off + i, none⟩ = some (ci x))
def itC (i : It) (pv : Value) : List Value := [ci i.kind, ct i.name, ci i.typ, .int .u64 i.bits, pv]
abbrev itV (i : It) (pv : Value) : Value := .agg #[ci i.kind, ct i.name, ci i.typ, .int .u64 i.bits, pv]
/-- An item. -/
def ItI (w : World) (i : It) (v : Value) : Prop := ∃ ao cap, v = itV i (.slice ao i.params.length cap) ∧ InL w ao cap i.params
/-- A row of items. -/
def ItL (w : World) (ao : Option Addr) (cap : Nat) (l : List It) : Prop :=
  l.length ≤ cap ∧ cap ≤ maxLen ∧ (ao = none → cap = 0) ∧ (l = [] ∨ ∃ b off, ao = some ⟨b, off, none⟩ ∧ ∀ (i : Nat) (x : It), l[i]? = some x →
    ∃ ap cp, InL w ap cp x.params ∧ ∀ (j : Nat) (u : Value), (itC x (.slice ap x.params.length cp))[j]? = some u → w.cell? ⟨b, off + i * 5 + j, none⟩ = some u)
/-- An interface. -/
def FcI (w : World) (f : Fc) (v : Value) : Prop := ∃ ao cap, v = .agg #[ct f.name, .slice ao f.items.length cap] ∧ ItL w ao cap f.items

theorem InL.keep {w w' : World} {ao : Option Addr} {cap : Nat} {l : List Int} (h : InL w ao cap l) (hf : Fr (fun _ => False) w w') : InL w' ao cap l := by
  obtain ⟨h1, h2, h3, h4⟩ := h
  refine ⟨h1, h2, h3, ?_⟩
  rcases h4 with h4 | ⟨b, off, rfl, h4⟩
  · exact Or.inl h4
  · exact Or.inr ⟨b, off, rfl, fun i x hx => hf.cellN (h4 i x hx)⟩
theorem ItI.keep {w w' : World} {i : It} {v : Value} (h : ItI w i v) (hf : Fr (fun _ => False) w w') : ItI w' i v := by
  obtain ⟨ao, cap, h1, h2⟩ := h
  exact ⟨ao, cap, h1, h2.keep hf⟩
theorem ItL.keep {w w' : World} {ao : Option Addr} {cap : Nat} {l : List It} (h : ItL w ao cap l) (hf : Fr (fun _ => False) w w') : ItL w' ao cap l := by
  obtain ⟨h1, h2, h3, h4⟩ := h
  refine ⟨h1, h2, h3, ?_⟩
  rcases h4 with h4 | ⟨b, off, rfl, h4⟩
  · exact Or.inl h4
  · refine Or.inr ⟨b, off, rfl, fun i x hx => ?_⟩
    obtain ⟨ap, cp, a1, a2⟩ := h4 i x hx
    exact ⟨ap, cp, a1.keep hf, fun j u hu => hf.cellN (a2 j u hu)⟩
theorem FcI.keep {w w' : World} {f : Fc} {v : Value} (h : FcI w f v) (hf : Fr (fun _ => False) w w') : FcI w' f v := by
  obtain ⟨ao, cap, h1, h2⟩ := h
  exact ⟨ao, cap, h1, h2.keep hf⟩
theorem fr_of_kept {w w' : World} (h : w.keptBut w' (fun _ => False)) (hs : w.heap.size ≤ w'.heap.size) : Fr (fun _ => False) w w' := by
  refine ⟨h.1, h.2.1, hs, fun k hk _ => ?_⟩
  have := h.2.2 k hk
  cases e1 : w.heap[k]? with
  | none => rw [e1] at this; cases e2 : w'.heap[k]? <;> rw [e2] at this <;> simp_all
  | some o =>
    rw [e1] at this
    cases e2 : w'.heap[k]? with
    | none => rw [e2] at this; cases o <;> simp_all
    | some o' =>
      rw [e2] at this
      cases o with
      | cells c t fr =>
        cases o' with
        | cells c' t' fr' =>
          simp only at this
          obtain ⟨rfl, rfl, _, hc⟩ := this
          have e : c' = c := by
            apply Array.ext_getElem?
            intro j
            exact hc j (fun h => h)
          rw [e]
        | _ => simp_all
      | map es clock =>
        cases o' with
        | map es' clock' =>
          simp only [false_or] at this
          rw [this.1, this.2]
        | _ => simp_all
      | _ => simp_all
theorem drewN_fr {S : Nat → Prop} {w w' : World} (h : Fr S w w') (n : Nat) : Fr S w (w'.drewN n) := ⟨h.os, h.output, h.size, h.block⟩
theorem ret_bl {x y : Bool} (h : x = y) : Ending.returned (.bool x) = .returned (.bool y) := by rw [h]
theorem ret_ci {x y : Int} (h : x = y) : Ending.returned (ci x) = .returned (ci y) := by rw [h]
theorem ret_ct {x y : Bs} (h : x = y) : Ending.returned (ct x) = .returned (ct y) := by rw [h]
theorem box5 {w : World} {b : Nat} {x0 x1 x2 x3 x4 : Value} {t : TypeId} (hb : w.heap[b]? = some (.cells #[x0, x1, x2, x3, x4] t (0, 0))) :
    w.cell? ⟨b, 0, none⟩ = some x0 ∧ w.cell? ⟨b, 1, none⟩ = some x1 ∧ w.cell? ⟨b, 2, none⟩ = some x2 ∧ w.cell? ⟨b, 3, none⟩ = some x3 ∧ w.cell? ⟨b, 4, none⟩ = some x4 := by
  exact ⟨cell_of_row _ _ 0 _ _ _ hb, cell_of_row _ _ 1 _ _ _ hb, cell_of_row _ _ 2 _ _ _ hb, cell_of_row _ _ 3 _ _ _ hb, cell_of_row _ _ 4 _ _ _ hb⟩
theorem box2 {w : World} {b : Nat} {x0 x1 : Value} {t : TypeId} (hb : w.heap[b]? = some (.cells #[x0, x1] t (0, 0))) :
    w.cell? ⟨b, 0, none⟩ = some x0 ∧ w.cell? ⟨b, 1, none⟩ = some x1 := by
  exact ⟨cell_of_row _ _ 0 _ _ _ hb, cell_of_row _ _ 1 _ _ _ hb⟩
end Go.Proofs.YtoiglopilpoafaaGreatDoor.Ty

namespace Go.Proofs
open Go.Shelf

end Go.Proofs
