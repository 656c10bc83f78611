/- Texts of ours, in one. -/
import Derived.KernelRfl
import Derived.Test.YtncachlopnpcjaaGreatDoorNxA
import Derived.Test.YtncachlopnpcjaaGreatDoorShelf
import Derived.Test.YtncachlopnpcjaaGreatDoorFxB
import Derived.Test.YtncachlopnpcjaaGreatDoorIxA
import Derived.Laws.ResultCell
import Derived.Laws.Tables
import Derived.Deep.DeepAppendWide
import Derived.Lib.Builder
import Derived.Shelf.Strings.Builder1
namespace Go.Proofs.YtncachlopnpcjaaGreatDoor
set_option linter.unusedSimpArgs false
set_option linter.unusedVariables false
namespace Lx

abbrev By := List UInt8

def dgt (c : UInt8) : Bool := decide (48 ≤ c.toNat) && decide (c.toNat ≤ 57)
def ltr (c : UInt8) : Bool := (decide (97 ≤ c.toNat) && decide (c.toNat ≤ 122)) || (decide (65 ≤ c.toNat) && decide (c.toNat ≤ 90)) || decide (c.toNat = 95)
def nmB (c : UInt8) : Bool := dgt c || ltr c
def hxB (c : UInt8) : Bool := dgt c || (decide (97 ≤ c.toNat) && decide (c.toNat ≤ 102)) || decide (c.toNat = 112) || decide (c.toNat = 46) || decide (c.toNat = 43) || decide (c.toNat = 45)
def blB (c : UInt8) : Bool := c == 32 || c == 9 || c == 10 || c == 13
def run (p : UInt8 → Bool) (l : By) : Nat := (l.takeWhile p).length

def gapM : Bool → By → Nat
  | _, [] => 0
  | true, c :: r => if c = 10 then 1 + gapM false r else 1 + gapM true r
  | false, c :: r => if blB c = true then 1 + gapM false r else if c = 47 ∧ r[0]? = some 47 then 1 + gapM true r else 0
abbrev gap (l : By) : Nat := gapM false l

def two (a b : UInt8) : Bool := (b == 61 && (a == 60 || a == 62 || a == 61 || a == 33)) || (a == 38 && b == 38) || (a == 124 && b == 124)
def one (a : UInt8) : Bool := a == 40 || a == 41 || a == 123 || a == 125 || a == 44 || a == 59 || a == 58 || a == 46 || a == 61 || a == 43 || a == 45 || a == 42 || a == 47 || a == 37 || a == 60 || a == 62 || a == 33
def mkLen : By → Nat
  | [] => 0
  | [a] => if one a = true then 1 else 0
  | a :: b :: _ => if two a b = true then 2 else if one a = true then 1 else 0
def numLen (l : By) : Nat × Nat :=
  if l.take 2 = [48, 120] then (4, 2 + run hxB (l.drop 2))
  else if l[run dgt l]? = some 46 ∧ run dgt (l.drop (run dgt l + 1)) ≠ 0 then (4, run dgt l + 1 + run dgt (l.drop (run dgt l + 1)))
  else (3, run dgt l)
variable (words : List By)
def kindLen : By → Nat × Nat
  | [] => (5, 0)
  | c :: r => if dgt c = true then numLen (c :: r) else if ltr c = true then (if (c :: r).take (run nmB (c :: r)) ∈ words then 2 else 1, run nmB (c :: r)) else (5, mkLen (c :: r))

structure Tok where
  k : Nat
  x : By
  ty : Int
  b : Int
  p : Nat
  deriving DecidableEq, Inhabited

variable (V : Nat → By → Int × Int × Int)
/-- From a place at which no gap stands. -/
def lexU : Nat → Nat → List Tok → By → List Tok × Nat × Int
  | 0, _, _, _ => ([], 0, 0)
  | f + 1, p, acc, u =>
    if u = [] then (acc, 0, 0) else
    if (kindLen words u).2 = 0 then ([], p, 10) else
    if (V (kindLen words u).1 (u.take (kindLen words u).2)).2.2 ≠ 0 then ([], p, (V (kindLen words u).1 (u.take (kindLen words u).2)).2.2) else
    if acc.length = 1024 then ([], p, 3) else
    lexU f (p + (kindLen words u).2 + gap (u.drop (kindLen words u).2))
      (acc ++ [⟨(kindLen words u).1, u.take (kindLen words u).2, (V (kindLen words u).1 (u.take (kindLen words u).2)).1, (V (kindLen words u).1 (u.take (kindLen words u).2)).2.1, p⟩])
      ((u.drop (kindLen words u).2).drop (gap (u.drop (kindLen words u).2)))
def lexS (s : By) : List Tok × Nat × Int :=
  if 4096 < s.length then ([], 0, 3) else lexU words V (s.length + 1) (gap s) [] (s.drop (gap s))

inductive Toks : Nat → By → List Tok → Prop
  | done (p : Nat) : Toks p [] []
  | more (p : Nat) (x r : By) (k : Nat) (ty b : Int) (ts : List Tok) (hk : kindLen words (x ++ r) = (k, x.length)) (h0 : x ≠ []) (hg : gap (x ++ r) = 0) (hv : V k x = (ty, b, 0))
      (h : Toks (p + x.length + gap r) (r.drop (gap r)) ts) : Toks p (x ++ r) (⟨k, x, ty, b, p⟩ :: ts)

/- gaps -/
theorem gap_le : ∀ (l : By) (m : Bool), gapM m l ≤ l.length := by
  intro l
  induction l with
  | nil => intro m; cases m <;> simp [gapM]
  | cons c r ih =>
    intro m
    have h1 := ih true
    have h2 := ih false
    cases m <;> simp only [gapM, List.length_cons] <;> repeat' split
    all_goals omega
theorem gapM_false (c : UInt8) (r : By) : gapM false (c :: r) = if blB c = true then 1 + gapM false r else if c = 47 ∧ r[0]? = some 47 then 1 + gapM true r else 0 := by rw [gapM]
theorem gapM_true (c : UInt8) (r : By) : gapM true (c :: r) = if c = 10 then 1 + gapM false r else 1 + gapM true r := by rw [gapM]
theorem gap_drop : ∀ (l : By) (m : Bool), gap (l.drop (gapM m l)) = 0 := by
  intro l
  induction l with
  | nil => intro m; cases m <;> simp [gapM]
  | cons c r ih =>
    intro m
    cases m
    · by_cases h1 : blB c = true
      · rw [gapM_false c r, if_pos h1, Nat.add_comm, List.drop_succ_cons]; exact ih false
      · by_cases h2 : c = 47 ∧ r[0]? = some 47
        · rw [gapM_false c r, if_neg h1, if_pos h2, Nat.add_comm, List.drop_succ_cons]; exact ih true
        · rw [gapM_false c r, if_neg h1, if_neg h2, List.drop_zero]
          show gapM false (c :: r) = 0
          rw [gapM_false, if_neg h1, if_neg h2]
    · by_cases h1 : c = 10
      · rw [gapM_true c r, if_pos h1, Nat.add_comm, List.drop_succ_cons]; exact ih false
      · rw [gapM_true c r, if_neg h1, Nat.add_comm, List.drop_succ_cons]; exact ih true
/-- What stands ahead of a token is a gap, whatever stands behind. -/
theorem gap_ahead (z : By) : ∀ (r : By) (m : Bool), gapM m r < r.length → gapM m (r.take (gapM m r) ++ z) = gapM m r + gap z := by
  intro r
  induction r with
  | nil => intro m h; simp at h
  | cons c r ih =>
    intro m h
    cases m
    · unfold gapM at h
      conv => lhs; rw [gapM]
      conv => rhs; rw [gapM]
      split at h
      · rename_i hb
        simp only [if_pos hb]
        rw [Nat.add_comm 1, List.take_succ_cons, List.cons_append]
        conv => lhs; rw [gapM]
        rw [if_pos hb, ih false (by simp only [List.length_cons] at h; omega)]
        omega
      · rename_i hb
        simp only [if_neg hb]
        split at h
        · rename_i hc
          simp only [if_pos hc]
          rw [Nat.add_comm 1, List.take_succ_cons, List.cons_append]
          conv => lhs; rw [gapM]
          have hr : (r.take (gapM true r) ++ z)[0]? = some 47 := by
            cases r with
            | nil => simp at hc
            | cons d r' =>
              have hd : d = 47 := by simpa using hc.2
              have hg : gapM true (d :: r') = 1 + gapM true r' := by
                conv => lhs; rw [gapM]
                rw [if_neg (by rw [hd]; decide)]
              rw [hg, Nat.add_comm 1, List.take_succ_cons]
              simp [hd]
          rw [if_neg hb, if_pos ⟨hc.1, hr⟩, ih true (by simp only [List.length_cons] at h; omega)]
          omega
        · rename_i hc
          simp only [if_neg hc]
          simp
    · unfold gapM at h
      conv => lhs; rw [gapM]
      conv => rhs; rw [gapM]
      split at h
      · rename_i hb
        simp only [if_pos hb]
        rw [Nat.add_comm 1, List.take_succ_cons, List.cons_append]
        conv => lhs; rw [gapM]
        rw [if_pos hb, ih false (by simp only [List.length_cons] at h; omega)]
        omega
      · rename_i hb
        simp only [if_neg hb]
        rw [Nat.add_comm 1, List.take_succ_cons, List.cons_append]
        conv => lhs; rw [gapM]
        rw [if_neg hb, ih true (by simp only [List.length_cons] at h; omega)]
        omega
theorem blank_no {c : UInt8} (h : blB c = true) : nmB c = false ∧ hxB c = false ∧ dgt c = false ∧ c ≠ 47 ∧ c ≠ 46 ∧ c ≠ 120 ∧ c ≠ 61 ∧ c ≠ 38 ∧ c ≠ 124 := by
  simp only [blB, Bool.or_eq_true, beq_iff_eq] at h
  rcases h with ((rfl | rfl) | rfl) | rfl <;> decide
/-- With an end of gaps alone. -/
theorem gap_end (E : By) (hE : ∀ m, gapM m E = E.length) (hb : ∃ c E', E = c :: E' ∧ blB c = true) : ∀ (r : By) (m : Bool),
    gapM m (r ++ E) = if gapM m r = r.length then r.length + E.length else gapM m r := by
  intro r
  induction r with
  | nil => intro m; simp [hE, gapM]
  | cons c r ih =>
    intro m
    have l1 := gap_le r true
    have l2 := gap_le r false
    cases m
    · rw [List.cons_append, gapM_false, gapM_false]
      by_cases h1 : blB c = true
      · rw [if_pos h1, if_pos h1, ih false]
        by_cases e : gapM false r = r.length
        · rw [if_pos e, if_pos (by rw [e, List.length_cons]; omega), List.length_cons]; omega
        · rw [if_neg e, if_neg (by rw [List.length_cons]; omega)]
      · rw [if_neg h1, if_neg h1]
        have e2 : (r ++ E)[0]? = some 47 ↔ r[0]? = some 47 := by
          cases r with
          | nil =>
            obtain ⟨d, E', rfl, hd⟩ := hb
            have := (blank_no hd).2.2.2.1
            simp [this]
          | cons d r' => simp
        by_cases h2 : c = 47 ∧ r[0]? = some 47
        · rw [if_pos h2, if_pos ⟨h2.1, e2.2 h2.2⟩, ih true]
          by_cases e : gapM true r = r.length
          · rw [if_pos e, if_pos (by rw [e, List.length_cons]; omega), List.length_cons]; omega
          · rw [if_neg e, if_neg (by rw [List.length_cons]; omega)]
        · rw [if_neg h2, if_neg (fun h => h2 ⟨h.1, e2.1 h.2⟩), if_neg (by simp)]
    · rw [List.cons_append, gapM_true, gapM_true]
      by_cases h1 : c = 10
      · rw [if_pos h1, if_pos h1, ih false]
        by_cases e : gapM false r = r.length
        · rw [if_pos e, if_pos (by rw [e, List.length_cons]; omega), List.length_cons]; omega
        · rw [if_neg e, if_neg (by rw [List.length_cons]; omega)]
      · rw [if_neg h1, if_neg h1, ih true]
        by_cases e : gapM true r = r.length
        · rw [if_pos e, if_pos (by rw [e, List.length_cons]; omega), List.length_cons]; omega
        · rw [if_neg e, if_neg (by rw [List.length_cons]; omega)]

/- what stands behind a token -/
/-- What is no blank right behind stood there before. -/
def Cut (r r' : By) : Prop := ∀ c, r'[0]? = some c → blB c = false → r[0]? = some c ∧ ∀ d, r'[1]? = some d → blB d = false → r[1]? = some d
theorem run_nil (p : UInt8 → Bool) : run p [] = 0 := rfl
theorem run_cons (p : UInt8 → Bool) (c : UInt8) (r : By) : run p (c :: r) = if p c = true then run p r + 1 else 0 := by
  unfold run
  rw [List.takeWhile_cons]
  split <;> simp
theorem run_le (p : UInt8 → Bool) (l : By) : run p l ≤ l.length := by
  induction l with
  | nil => simp [run]
  | cons c r ih => rw [run_cons]; split <;> simp <;> omega
theorem run_stop (p : UInt8 → Bool) (x r : By) (hx : ∀ c ∈ x, p c = true) (hr : ∀ c, r[0]? = some c → p c = false) : run p (x ++ r) = x.length := by
  induction x with
  | nil =>
    cases r with
    | nil => rfl
    | cons c r' => rw [List.nil_append, run_cons, if_neg (by rw [hr c (by simp)]; simp)]; rfl
  | cons c x ih => rw [List.cons_append, run_cons, if_pos (hx c (by simp)), ih (fun c hc => hx c (by simp [hc]))]; rfl
theorem run_all (p : UInt8 → Bool) (x r : By) (h : run p (x ++ r) = x.length) : (∀ c ∈ x, p c = true) ∧ (∀ c, r[0]? = some c → p c = false) := by
  induction x with
  | nil =>
    refine ⟨by simp, fun c hc => ?_⟩
    cases r with
    | nil => simp at hc
    | cons d r' =>
      have : d = c := by simpa using hc
      subst this
      rw [List.nil_append, run_cons] at h
      by_cases e : p d = true
      · rw [if_pos e] at h; simp at h
      · simpa using e
  | cons c x ih =>
    rw [List.cons_append, run_cons] at h
    by_cases e : p c = true
    · rw [if_pos e] at h
      have := ih (by simpa using h)
      exact ⟨fun d hd => by rcases List.mem_cons.1 hd with rfl | hd; exact e; exact this.1 d hd, this.2⟩
    · rw [if_neg e] at h; simp at h
theorem run_cut (p : UInt8 → Bool) (hp : ∀ c, blB c = true → p c = false) (x r r' : By) (h : run p (x ++ r) = x.length) (hc : Cut r r') : run p (x ++ r') = x.length := by
  have ⟨h1, h2⟩ := run_all p x r h
  refine run_stop p x r' h1 fun c hc' => ?_
  by_cases e : blB c = true
  · exact hp c e
  · exact h2 c (hc c hc' (by simpa using e)).1
theorem run_zero (p : UInt8 → Bool) (l : By) : run p l = 0 ↔ ∀ c, l[0]? = some c → p c = false := by
  cases l with
  | nil => simp [run]
  | cons c r =>
    rw [run_cons]
    by_cases e : p c = true
    · simp [e]
    · simp [e]
theorem drop_zero_get (l : By) (n : Nat) : (l.drop n)[0]? = l[n]? := by simp
end Lx
end Go.Proofs.YtncachlopnpcjaaGreatDoor

namespace Go.Proofs.YtncachlopnpcjaaGreatDoor
set_option linter.unusedSimpArgs false
set_option linter.unusedVariables false
namespace Lx
variable (words : List By) (V : Nat → By → Int × Int × Int)

theorem Cut.nil (r : By) : Cut r [] := fun c h => by simp at h
theorem Cut.blank (r : By) (b : UInt8) (z : By) (hb : blB b = true) : Cut r (b :: z) := fun c h hc => by
  have : b = c := by simpa using h
  rw [this] at hb
  rw [hb] at hc
  cases hc
/-- Something put in that begins with a blank, or behind the end. -/
theorem Cut.put (m q z : By) (b : UInt8) (hb : blB b = true) : Cut (m ++ q) (m ++ b :: z) := by
  intro c h hc
  match m with
  | [] => exact absurd (Cut.blank q b z hb c h hc) (by
      have : b = c := by simpa using h
      rw [this] at hb
      rw [hb] at hc
      cases hc)
  | [a] =>
    refine ⟨by simpa using h, fun d hd hdb => ?_⟩
    have : b = d := by simpa using hd
    rw [this] at hb
    rw [hb] at hdb
    cases hdb
  | a :: a' :: m' => exact ⟨by simpa using h, fun d hd hdb => by simpa using hd⟩
theorem nm_bl (c : UInt8) (h : blB c = true) : nmB c = false := (blank_no h).1
theorem hx_bl (c : UInt8) (h : blB c = true) : hxB c = false := (blank_no h).2.1
theorem dg_bl (c : UInt8) (h : blB c = true) : dgt c = false := (blank_no h).2.2.1

theorem mk_cut (x r r' : By) (h0 : x ≠ []) (h : mkLen (x ++ r) = x.length) (hc : Cut r r') : mkLen (x ++ r') = x.length := by
  match x, h0 with
  | [a], _ =>
    have ha : one a = true ∧ ∀ b, r[0]? = some b → two a b = false := by
      cases r with
      | nil =>
        simp only [List.append_nil, mkLen] at h
        split at h
        · rename_i e; exact ⟨e, by simp⟩
        · simp at h
      | cons b r2 =>
        simp only [List.cons_append, List.nil_append, mkLen] at h
        split at h
        · simp at h
        · rename_i e
          split at h
          · rename_i e2
            exact ⟨e2, fun c hcc => by have : b = c := by simpa using hcc
                                       rw [← this]; simpa using e⟩
          · simp at h
    cases r' with
    | nil => simp [mkLen, ha.1]
    | cons c r2 =>
      simp only [List.cons_append, List.nil_append, mkLen]
      have : two a c = false := by
        by_cases e : blB c = true
        · obtain ⟨_, _, _, _, _, _, h1, h2, h3⟩ := blank_no e
          simp [two, h1, h2, h3]
        · exact ha.2 c (hc c (by simp) (by simpa using e)).1
      simp [this, ha.1]
  | [a, b], _ =>
    simp only [List.cons_append, List.nil_append, mkLen] at h ⊢
    exact h
  | a :: b :: c :: x', _ =>
    simp only [List.cons_append, mkLen, List.length_cons] at h
    split at h
    · omega
    · split at h <;> omega

theorem num_cut (x r r' : By) (k : Nat) (h0 : x ≠ []) (h : numLen (x ++ r) = (k, x.length)) (hc : Cut r r') : numLen (x ++ r') = (k, x.length) := by
  unfold numLen at h
  by_cases e1 : (x ++ r).take 2 = [48, 120]
  · rw [if_pos e1] at h
    simp only [Prod.mk.injEq] at h
    obtain ⟨rfl, h⟩ := h
    match x, h0 with
    | [a], _ => simp at h; omega
    | a :: b :: y, _ =>
      have e2 : (a :: b :: y ++ r').take 2 = [48, 120] := by simpa using e1
      unfold numLen
      rw [if_pos e2]
      simp only [List.cons_append, List.drop_succ_cons, List.drop_zero, List.length_cons] at h ⊢
      rw [run_cut hxB hx_bl y r r' (by omega) hc]
      congr 1
      omega
  · rw [if_neg e1] at h
    have e2 : ¬ (x ++ r').take 2 = [48, 120] := by
      match x, h0 with
      | [a], _ =>
        intro e
        cases r' with
        | nil => simp at e
        | cons c r2 =>
          simp only [List.cons_append, List.nil_append, List.take_succ_cons, List.take_zero, List.cons.injEq, and_true] at e
          obtain ⟨rfl, rfl⟩ := e
          have := (hc 120 (by simp) (by decide)).1
          cases r with
          | nil => simp at this
          | cons d r3 =>
            have hd : d = 120 := by simpa using this
            subst hd
            exact e1 (by simp)
      | a :: b :: y, _ => simpa using e1
    by_cases e3 : (x ++ r)[run dgt (x ++ r)]? = some 46 ∧ run dgt ((x ++ r).drop (run dgt (x ++ r) + 1)) ≠ 0
    · rw [if_pos e3] at h
      simp only [Prod.mk.injEq] at h
      obtain ⟨rfl, h⟩ := h
      have hn : run dgt (x ++ r) < x.length := by omega
      obtain ⟨n, hne⟩ : ∃ n, n = run dgt (x ++ r) := ⟨_, rfl⟩
      rw [← hne] at h e3 hn
      have hx : x = x.take n ++ x.drop n := (List.take_append_drop n x).symm
      have hl : (x.take n).length = n := by rw [List.length_take]; omega
      have hr1 : run dgt (x.take n ++ (x.drop n ++ r)) = (x.take n).length := by rw [← List.append_assoc, ← hx, hl, hne]
      obtain ⟨ha, hb⟩ := run_all _ _ _ hr1
      have hr2 : run dgt (x ++ r') = n := by
        conv => lhs; rw [hx]
        rw [List.append_assoc]
        refine (run_stop dgt (x.take n) (x.drop n ++ r') ha fun c hc' => ?_).trans hl
        refine hb c ?_
        have : x.drop n ≠ [] := by intro e; have := congrArg List.length e; simp at this; omega
        obtain ⟨d, y, hy⟩ := List.exists_cons_of_ne_nil this
        rw [hy] at hc' ⊢
        simpa using hc'
      have hd : (x ++ r).drop (n + 1) = x.drop (n + 1) ++ r := by rw [List.drop_append_of_le_length (by omega)]
      have hd' : (x ++ r').drop (n + 1) = x.drop (n + 1) ++ r' := by rw [List.drop_append_of_le_length (by omega)]
      have hl2 : (x.drop (n + 1)).length = x.length - (n + 1) := by simp
      rw [hd] at h e3
      have hr3 : run dgt (x.drop (n + 1) ++ r') = (x.drop (n + 1)).length := run_cut dgt dg_bl _ r r' (by omega) hc
      unfold numLen
      rw [if_neg e2, hr2, hd', hr3, if_pos ⟨by rw [List.getElem?_append_left hn] at e3 ⊢; exact e3.1, by omega⟩]
      congr 1
      omega
    · rw [if_neg e3] at h
      simp only [Prod.mk.injEq] at h
      obtain ⟨rfl, h⟩ := h
      have hr2 := run_cut dgt dg_bl x r r' h hc
      unfold numLen
      rw [if_neg e2, hr2, if_neg]
      rintro ⟨h1, h2⟩
      rw [h] at e3
      apply e3
      rw [List.getElem?_append_right (by omega), Nat.sub_self] at h1 ⊢
      obtain ⟨h4, h5⟩ := hc 46 h1 (by decide)
      refine ⟨h4, fun e => h2 ?_⟩
      rw [run_zero] at e ⊢
      intro c hcc
      rw [drop_zero_get, List.getElem?_append_right (by omega), show x.length + 1 - x.length = 1 by omega] at hcc
      by_cases eb : blB c = true
      · exact dg_bl c eb
      · refine e c ?_
        rw [drop_zero_get, List.getElem?_append_right (by omega), show x.length + 1 - x.length = 1 by omega]
        exact h5 c hcc (by simpa using eb)

theorem kind_cut (x r r' : By) (k : Nat) (h0 : x ≠ []) (h : kindLen words (x ++ r) = (k, x.length)) (hc : Cut r r') : kindLen words (x ++ r') = (k, x.length) := by
  obtain ⟨a, y, rfl⟩ := List.exists_cons_of_ne_nil h0
  simp only [List.cons_append, kindLen] at h ⊢
  split at h
  · rename_i e
    rw [if_pos e]
    exact num_cut (a :: y) r r' k h0 h hc
  · rename_i e
    rw [if_neg e]
    split at h
    · rename_i e2
      rw [if_pos e2]
      simp only [Prod.mk.injEq] at h
      obtain ⟨h1, h2⟩ := h
      have hr := run_cut nmB nm_bl (a :: y) r r' h2 hc
      simp only [List.cons_append] at hr
      rw [hr]
      rw [h2] at h1
      rw [← h1]
      simp only [← List.cons_append, List.take_left]
    · rename_i e2
      rw [if_neg e2]
      simp only [Prod.mk.injEq] at h
      obtain ⟨h1, h2⟩ := h
      have := mk_cut (a :: y) r r' h0 h2 hc
      simp only [List.cons_append] at this
      rw [this, h1]
theorem gap_cut (x r r' : By) (h0 : x ≠ []) (h : gap (x ++ r) = 0) (hc : Cut r r') : gap (x ++ r') = 0 := by
  match x, h0 with
  | [a], _ =>
    show gapM false (a :: ([] ++ r')) = 0
    rw [gapM_false]
    have h' : gapM false (a :: r) = 0 := h
    rw [gapM_false] at h'
    split at h'
    · omega
    · rename_i hb
      rw [if_neg hb]
      split at h'
      · omega
      · rename_i hr
        rw [if_neg]
        rintro ⟨rfl, h2⟩
        exact hr ⟨rfl, (hc 47 h2 (by decide)).1⟩
  | a :: b :: y, _ =>
    show gapM false (a :: (b :: y ++ r')) = 0
    have h' : gapM false (a :: (b :: y ++ r)) = 0 := h
    rw [gapM_false] at h' ⊢
    split at h'
    · omega
    · rename_i hb
      rw [if_neg hb]
      split at h'
      · omega
      · rename_i hr
        rw [if_neg]
        rintro ⟨rfl, h2⟩
        exact hr ⟨rfl, by simpa using h2⟩
end Lx
end Go.Proofs.YtncachlopnpcjaaGreatDoor

namespace Go.Proofs.YtncachlopnpcjaaGreatDoor
set_option linter.unusedSimpArgs false
set_option linter.unusedVariables false
namespace Lx
variable (words : List By) (V : Nat → By → Int × Int × Int)

def Tok.core (t : Tok) : Nat × By × Int × Int := (t.k, t.x, t.ty, t.b)
theorem toks_nil {p : Nat} {l : List Tok} (h : Toks words V p [] l) : l = [] := by
  generalize hu : ([] : By) = u at h
  cases h with
  | done => rfl
  | more p x r k ty b ts hk h0 hg hv h => exact absurd hu.symm (by simp [h0])
theorem kind_cons (c : UInt8) (r : By) : kindLen words (c :: r) = if dgt c = true then numLen (c :: r) else if ltr c = true then (if (c :: r).take (run nmB (c :: r)) ∈ words then 2 else 1, run nmB (c :: r)) else (5, mkLen (c :: r)) := by rw [kindLen]
theorem mk_le (l : By) : mkLen l ≤ l.length := by
  match l with
  | [] => simp [mkLen]
  | [a] => simp only [mkLen]; split <;> simp
  | a :: b :: r => simp only [mkLen]; repeat' split
                   all_goals simp
theorem kind_le (u : By) : (kindLen words u).2 ≤ u.length := by
  cases u with
  | nil => simp [kindLen]
  | cons c r =>
    rw [kind_cons]
    split
    · unfold numLen
      split
      · rename_i e
        have h := run_le hxB ((c :: r).drop 2)
        have hl := congrArg List.length e
        simp only [List.length_take, List.length_cons, List.length_nil, List.length_drop] at hl h
        simp only [List.length_cons]
        omega
      · split
        · rename_i e
          have h := run_le dgt ((c :: r).drop (run dgt (c :: r) + 1))
          have h3 : run dgt (c :: r) < (c :: r).length := by
            apply Decidable.byContradiction
            intro hn
            rw [List.getElem?_eq_none (by omega)] at e
            simp at e
          simp only [List.length_drop] at h
          simp only []
          omega
        · exact run_le _ _
    · split
      · exact run_le _ _
      · exact mk_le _

theorem lexU_toks (f : Nat) : ∀ (p : Nat) (acc : List Tok) (u : By) (ts : List Tok) (q : Nat) (e : Int), u.length < f → gap u = 0 → acc.length ≤ 1024 → lexU words V f p acc u = (ts, q, e) →
    (e = 0 ∧ q = 0 ∧ ts.length ≤ 1024 ∧ ∃ ts', ts = acc ++ ts' ∧ Toks words V p u ts') ∨ (e ≠ 0 ∧ ts = [] ∧ q ≤ p + u.length) := by
  induction f with
  | zero => intro p acc u ts q e h; omega
  | succ f ih =>
    intro p acc u ts q e hf hg ha h
    unfold lexU at h
    split at h
    · rename_i hu
      subst hu
      cases h
      exact Or.inl ⟨rfl, rfl, ha, [], by simp, .done p⟩
    · rename_i hu
      split at h
      · cases h
        exact Or.inr ⟨by decide, rfl, by omega⟩
      · rename_i hn
        split at h
        · rename_i hv
          cases h
          exact Or.inr ⟨hv, rfl, by omega⟩
        · rename_i hv
          split at h
          · cases h
            exact Or.inr ⟨by decide, rfl, by omega⟩
          · rename_i hc
            have hle := kind_le words u
            have hgl : gap (u.drop (kindLen words u).2) ≤ (u.drop (kindLen words u).2).length := gap_le (u.drop (kindLen words u).2) false
            rw [List.length_drop] at hgl
            have hlen : ((u.drop (kindLen words u).2).drop (gap (u.drop (kindLen words u).2))).length < f := by
              rw [List.length_drop, List.length_drop]; omega
            have hx : u = u.take (kindLen words u).2 ++ u.drop (kindLen words u).2 := (List.take_append_drop _ u).symm
            have hxl : (u.take (kindLen words u).2).length = (kindLen words u).2 := by rw [List.length_take]; omega
            rcases ih _ _ _ _ _ _ hlen (gap_drop _ false) (by simp; omega) h with ⟨h1, h2, h3, ts', h4, h5⟩ | ⟨h1, h2, h3⟩
            · refine Or.inl ⟨h1, h2, h3, ⟨(kindLen words u).1, u.take (kindLen words u).2, (V (kindLen words u).1 (u.take (kindLen words u).2)).1, (V (kindLen words u).1 (u.take (kindLen words u).2)).2.1, p⟩ :: ts', by rw [h4]; simp, ?_⟩
              have := Toks.more (words := words) (V := V) p (u.take (kindLen words u).2) (u.drop (kindLen words u).2) (kindLen words u).1 _ _ ts' (by rw [← hx, hxl]) (by intro e; rw [e] at hxl; simp at hxl; omega) (by rw [← hx]; exact hg)
                (show _ = ((V (kindLen words u).1 (u.take (kindLen words u).2)).1, (V (kindLen words u).1 (u.take (kindLen words u).2)).2.1, 0) by
                  have hz : (V (kindLen words u).1 (u.take (kindLen words u).2)).2.2 = 0 := by simpa using hv
                  rw [← hz]) (by rw [hxl]; exact h5)
              rw [← hx] at this
              exact this
            · refine Or.inr ⟨h1, h2, ?_⟩
              rw [List.length_drop, List.length_drop] at h3
              omega
theorem toks_lexU {p : Nat} {u : By} {ts : List Tok} (h : Toks words V p u ts) : ∀ (f : Nat) (acc : List Tok), u.length < f → acc.length + ts.length ≤ 1024 → lexU words V f p acc u = (acc ++ ts, 0, 0) := by
  induction h with
  | done p =>
    intro f acc hf ha
    obtain ⟨f, rfl⟩ : ∃ g, f = g + 1 := ⟨f - 1, by omega⟩
    simp [lexU]
  | more p x r k ty b ts hk h0 hg hv h ih =>
    intro f acc hf ha
    obtain ⟨f, rfl⟩ : ∃ g, f = g + 1 := ⟨f - 1, by omega⟩
    have hl : x.length ≠ 0 := by intro e; exact h0 (List.eq_nil_of_length_eq_zero e)
    have hgl := gap_le r false
    have := ih f (acc ++ [⟨k, x, ty, b, p⟩]) (by rw [List.length_drop]; simp only [List.length_append] at hf; omega) (by simp only [List.length_append, List.length_cons, List.length_nil] at ha ⊢; omega)
    unfold lexU
    simp only [hk, hl, List.take_left, List.drop_left, hv, if_false, ne_eq, not_true_eq_false]
    rw [if_neg (by simp [h0]), if_neg (by simp only [List.length_cons] at ha; omega), this]
    simp
theorem toks_shift {p : Nat} {u : By} {ts : List Tok} (h : Toks words V p u ts) : ∀ q, ∃ ts', Toks words V q u ts' ∧ ts'.map Tok.core = ts.map Tok.core := by
  induction h with
  | done p => intro q; exact ⟨[], .done q, rfl⟩
  | more p x r k ty b ts hk h0 hg hv h ih =>
    intro q
    obtain ⟨ts', h1, h2⟩ := ih (q + x.length + gap r)
    exact ⟨_, .more q x r k ty b ts' hk h0 hg hv h1, by simp [h2, Tok.core]⟩
theorem lexS_of_toks (s : By) (ts : List Tok) (hl : s.length ≤ 4096) (hc : ts.length ≤ 1024) (h : Toks words V (gap s) (s.drop (gap s)) ts) : lexS words V s = (ts, 0, 0) := by
  unfold lexS
  rw [if_neg (by omega), toks_lexU words V h _ _ (by rw [List.length_drop]; omega) (by simpa using hc)]
  simp
theorem toks_of_lexS (s : By) (ts : List Tok) (q : Nat) (e : Int) (h : lexS words V s = (ts, q, e)) :
    (e = 0 ∧ q = 0 ∧ ts.length ≤ 1024 ∧ s.length ≤ 4096 ∧ Toks words V (gap s) (s.drop (gap s)) ts) ∨ (e ≠ 0 ∧ ts = [] ∧ q ≤ s.length) := by
  unfold lexS at h
  split at h
  · cases h
    exact Or.inr ⟨by decide, rfl, by omega⟩
  · rename_i hl
    have hg : gap s ≤ s.length := gap_le s false
    rcases lexU_toks words V _ _ _ _ _ _ _ (by rw [List.length_drop]; omega) (gap_drop s false) (by simp) h with ⟨h1, h2, h3, ts', h4, h5⟩ | ⟨h1, h2, h3⟩
    · simp only [List.nil_append] at h4
      subst h4
      exact Or.inl ⟨h1, h2, h3, by omega, h5⟩
    · rw [List.length_drop] at h3
      refine Or.inr ⟨h1, h2, ?_⟩
      simp only [gap] at h3 hg
      omega

/- joined -/
def joinS : List Tok → By
  | [] => []
  | [t] => t.x
  | t :: t' :: ts => t.x ++ 32 :: joinS (t' :: ts)
theorem join_core : ∀ (l l' : List Tok), l.map Tok.core = l'.map Tok.core → joinS l = joinS l'
  | [], [], _ => rfl
  | [], _ :: _, h => by simp at h
  | _ :: _, [], h => by simp at h
  | [a], [b], h => by simp [Tok.core] at h; simp [joinS, h]
  | [a], b :: b' :: l', h => by simp at h
  | a :: a' :: l, [b], h => by simp at h
  | a :: a' :: l, b :: b' :: l', h => by
    have h2 := join_core (a' :: l) (b' :: l') (by simp only [List.map_cons, List.cons.injEq] at h ⊢; exact h.2)
    have h1 : a.x = b.x := by simp [Tok.core] at h; exact h.1.2.1
    simp [joinS, h1, h2]
theorem toks_join {p : Nat} {u : By} {ts : List Tok} (h : Toks words V p u ts) : gap (joinS ts) = 0 ∧ ∀ q, ∃ ts', Toks words V q (joinS ts) ts' ∧ ts'.map Tok.core = ts.map Tok.core := by
  induction h with
  | done p => exact ⟨rfl, fun q => ⟨[], .done q, rfl⟩⟩
  | more p x r k ty b ts hk h0 hg hv h ih =>
    cases ts with
    | nil =>
      have e : joinS [⟨k, x, ty, b, p⟩] = x ++ [] := by simp [joinS]
      rw [e]
      refine ⟨gap_cut x r [] h0 hg (Cut.nil r), fun q => ⟨_, .more q x [] k ty b [] (kind_cut words x r [] k h0 hk (Cut.nil r)) h0 (gap_cut x r [] h0 hg (Cut.nil r)) hv (.done _), rfl⟩⟩
    | cons t ts =>
      have e : joinS (⟨k, x, ty, b, p⟩ :: t :: ts) = x ++ 32 :: joinS (t :: ts) := rfl
      rw [e]
      have hc : Cut r (32 :: joinS (t :: ts)) := Cut.blank r 32 _ (by decide)
      refine ⟨gap_cut x r _ h0 hg hc, fun q => ?_⟩
      have hgj : gap (32 :: joinS (t :: ts)) = 1 := by
        show gapM false (32 :: joinS (t :: ts)) = 1
        rw [gapM_false, if_pos (by decide)]
        have := ih.1
        simp only [gap] at this
        omega
      obtain ⟨ts', h1, h2⟩ := ih.2 (q + x.length + gap (32 :: joinS (t :: ts)))
      refine ⟨_, .more q x (32 :: joinS (t :: ts)) k ty b ts' (kind_cut words x r _ k h0 hk hc) h0 (gap_cut x r _ h0 hg hc) hv (by rw [hgj] at h1 ⊢; exact h1), ?_⟩
      rw [List.map_cons, h2]
      rfl

/- blanks behind all -/
theorem toks_end (E : By) (hE : ∀ m, gapM m E = E.length) (hb : ∃ c E', E = c :: E' ∧ blB c = true) {p : Nat} {u : By} {ts : List Tok} (h : Toks words V p u ts) : u ≠ [] → Toks words V p (u ++ E) ts := by
  induction h with
  | done p => intro h; exact absurd rfl h
  | more p x r k ty b ts hk h0 hg hv h ih =>
    intro _
    have hc : Cut r (r ++ E) := by
      obtain ⟨c, E', rfl, hb⟩ := hb
      have := Cut.put r [] E' c hb
      rw [List.append_nil] at this
      exact this
    rw [List.append_assoc]
    refine .more p x (r ++ E) k ty b ts (kind_cut words x r _ k h0 hk hc) h0 (gap_cut x r _ h0 hg hc) hv ?_
    show Toks words V (p + x.length + gapM false (r ++ E)) ((r ++ E).drop (gapM false (r ++ E))) ts
    rw [gap_end E hE hb r false]
    have hgl := gap_le r false
    by_cases e : gapM false r = r.length
    · rw [if_pos e, ← List.length_append, List.drop_length]
      have : r.drop (gap r) = [] := by show r.drop (gapM false r) = []; rw [e, List.drop_length]
      rw [this] at h
      rw [toks_nil words V h]
      exact .done _
    · rw [if_neg e, List.drop_append_of_le_length hgl]
      exact ih (by intro hh; have := congrArg List.length hh; rw [List.length_drop] at this; simp only [gap, List.length_nil] at this; omega)

theorem gap_first {p : Nat} {u : By} {ts : List Tok} (h : Toks words V p u ts) : gap u = 0 := by
  cases h with
  | done => rfl
  | more p x r k ty b ts hk h0 hg hv h => exact hg
theorem toks_put (P E : By) (b0 : UInt8) (P' : By) (hP0 : P = b0 :: P') (hb0 : blB b0 = true) (hP : ∀ z, gap (P ++ z) = P.length + gap z) (hE : ∀ m, gapM m E = E.length) (hb : ∃ c E', E = c :: E' ∧ blB c = true)
    {p : Nat} {u : By} {ts : List Tok} (h : Toks words V p u ts) : ∀ (i : Nat) (t : Tok), ts[i]? = some t → ∃ d, t.p = p + d ∧ d < u.length ∧ ∀ q, ∃ ts', Toks words V q ((u.take d ++ (P ++ (u.drop d ++ E))).drop (gap (u.take d ++ (P ++ (u.drop d ++ E))))) ts' ∧ ts'.map Tok.core = ts.map Tok.core := by
  induction h with
  | done p => intro i t h; simp at h
  | more p x r k ty b ts hk h0 hg hv h ih =>
    intro i t hi
    have hl : x.length ≠ 0 := by intro e; exact h0 (List.eq_nil_of_length_eq_zero e)
    cases i with
    | zero =>
      have : (⟨k, x, ty, b, p⟩ : Tok) = t := by simpa using hi
      subst this
      refine ⟨0, rfl, by rw [List.length_append]; omega, fun q => ?_⟩
      have hall := toks_end words V E hE hb (Toks.more p x r k ty b ts hk h0 hg hv h) (by simp [h0])
      have hge : gap (x ++ r ++ E) = 0 := gap_first words V hall
      rw [List.take_zero, List.drop_zero, List.nil_append, hP, hge, Nat.add_zero, List.drop_left]
      exact toks_shift words V hall q
    | succ i =>
      have hi' : ts[i]? = some t := by simpa using hi
      obtain ⟨d, hd1, hd2, hd3⟩ := ih i t hi'
      have hgl : gapM false r < r.length := by
        rw [List.length_drop] at hd2
        simp only [gap] at hd2
        omega
      refine ⟨x.length + gap r + d, by rw [hd1]; omega, by rw [List.length_drop] at hd2; rw [List.length_append]; omega, fun q => ?_⟩
      have ez : (x ++ r).take (x.length + gap r + d) ++ (P ++ ((x ++ r).drop (x.length + gap r + d) ++ E)) = x ++ (r.take (gapM false r) ++ ((r.drop (gap r)).take d ++ (P ++ ((r.drop (gap r)).drop d ++ E)))) := by
        have e1 : (x ++ r).take (x.length + gap r + d) = x ++ (r.take (gapM false r) ++ (r.drop (gap r)).take d) := by
          rw [show x.length + gap r + d = x.length + (gap r + d) by omega, List.take_length_add_append, List.take_add]
        have e2 : (x ++ r).drop (x.length + gap r + d) = (r.drop (gap r)).drop d := by
          rw [show x.length + gap r + d = x.length + (gap r + d) by omega, List.drop_length_add_append, List.drop_drop]
        rw [e1, e2]
        simp only [List.append_assoc]
      rw [ez]
      obtain ⟨z', hz'⟩ : ∃ z', z' = (r.drop (gap r)).take d ++ (P ++ ((r.drop (gap r)).drop d ++ E)) := ⟨_, rfl⟩
      rw [← hz'] at hd3 ⊢
      have hc : Cut r (r.take (gapM false r) ++ z') := by
        have := Cut.put (r.take (gapM false r) ++ (r.drop (gap r)).take d) ((r.drop (gap r)).drop d) (P' ++ ((r.drop (gap r)).drop d ++ E)) b0 hb0
        rw [List.append_assoc, List.append_assoc, List.take_append_drop, List.take_append_drop] at this
        rw [hz', hP0]
        exact this
      have hg0 : gap (x ++ (r.take (gapM false r) ++ z')) = 0 := gap_cut x r _ h0 hg hc
      rw [hg0, List.drop_zero]
      have hgr : gap (r.take (gapM false r) ++ z') = gapM false r + gap z' := gap_ahead z' r false hgl
      obtain ⟨ts', h1, h2⟩ := hd3 (q + x.length + gap (r.take (gapM false r) ++ z'))
      refine ⟨_, .more q x (r.take (gapM false r) ++ z') k ty b ts' (kind_cut words x r _ k h0 hk hc) h0 hg0 hv ?_, by rw [List.map_cons, h2]; rfl⟩
      have ed : (r.take (gapM false r) ++ z').drop (gap (r.take (gapM false r) ++ z')) = z'.drop (gap z') := by
        have hlt : (r.take (gapM false r)).length = gapM false r := by rw [List.length_take]; omega
        rw [hgr]
        conv => lhs; rw [← hlt]
        rw [show (r.take (gapM false r)).length = gapM false r from hlt]
        conv => lhs; arg 1; rw [← hlt]
        rw [List.drop_length_add_append]
      rw [ed]
      exact h1
end Lx
end Go.Proofs.YtncachlopnpcjaaGreatDoor

namespace Go.Proofs.YtncachlopnpcjaaGreatDoor
open Go.RowKit Lx
set_option linter.unusedSimpArgs false
set_option linter.unusedVariables false

def partsN (n : Nat) : Nat :=
  if 48 ≤ n ∧ n ≤ 57 then 7 else if (97 ≤ n ∧ n ≤ 102) ∨ n = 112 then 6 else if (97 ≤ n ∧ n ≤ 122) ∨ (65 ≤ n ∧ n ≤ 90) ∨ n = 95 then 4 else if n = 46 ∨ n = 43 ∨ n = 45 then 2 else 0
theorem parts_walk (n : Nat) (r : Nat) (hr : Hidden (partsN n = r)) (w : World) :
    Calls Tryz.prog 82 #[.int .u8 (n : Int)] w fun e w' => e = .returned (.int .i64 (r : Int)) ∧ w' = w := by
  go_enter Tryz.func82, Tryz.ntmps82
  go_wp2
  all_goals (go_ret; refine ⟨?_, rfl⟩; rw [← (show partsN n = r from hr)]; clear hr; congr 1)
  all_goals (unfold partsN; simp only [Value.int.injEq, true_and]; repeat' split)
  all_goals first | rfl | (exfalso; (try simp only [beq_iff_eq, beq_eq_false_iff_ne, ne_eq] at *); omega)
theorem ret_bool {a b : Bool} (h : a = true ↔ b = true) : Ending.returned (.bool a) = .returned (.bool b) := by rw [Bool.eq_iff_iff.2 h]
theorem blank_walk (n : Nat) (r : Bool) (hr : Hidden ((n == 32 || n == 9 || n == 10 || n == 13) = r)) (w : World) :
    Calls Tryz.prog 59 #[.int .u8 (n : Int)] w fun e w' => e = .returned (.bool r) ∧ w' = w := by
  go_enter Tryz.func59, Tryz.ntmps59
  go_wp2
  all_goals (go_ret; refine ⟨?_, rfl⟩; rw [← (show _ = r from hr)]; clear hr; refine ret_bool ?_; (try simp only [beq_iff_eq, beq_eq_false_iff_ne, ne_eq] at *); simp only [Bool.or_eq_true, beq_iff_eq, true_iff, Bool.false_eq_true, false_iff]; omega)

theorem parts_dgt (c : UInt8) : (bits BinOp.and IntKind.i64 (partsN c.toNat : Int) 1 != 0) = dgt c ∧ (bits BinOp.and IntKind.i64 (partsN c.toNat : Int) 2 != 0) = hxB c ∧ (bits BinOp.and IntKind.i64 (partsN c.toNat : Int) 4 != 0) = nmB c := by
  have h : ∀ k < 256, (bits BinOp.and IntKind.i64 (partsN k : Int) 1 != 0) = dgt (UInt8.ofNat k) ∧ (bits BinOp.and IntKind.i64 (partsN k : Int) 2 != 0) = hxB (UInt8.ofNat k) ∧ (bits BinOp.and IntKind.i64 (partsN k : Int) 4 != 0) = nmB (UInt8.ofNat k) := by decide +kernel
  have := h c.toNat c.toNat_lt
  simpa using this

theorem run_step (p : UInt8 → Bool) (l : By) (j : Nat) (c : UInt8) (h : l[j]? = some c) : run p (l.drop j) = if p c = true then run p (l.drop (j + 1)) + 1 else 0 := by
  rw [drop_at h, run_cons]
/-- runEnd, of a part m whose bytes are p. -/
theorem runEnd_walk (l : By) (i m R : Nat) (p : UInt8 → Bool) (hp : ∀ c, (bits BinOp.and IntKind.i64 (partsN c.toNat : Int) (m : Int) != 0) = p c) (hi : i ≤ l.length) (hl : l.length ≤ 9223372036854775806) (hR : Hidden (i + run p (l.drop i) = R)) (w : World) :
    Calls Tryz.prog 84 #[.string ⟨l.toArray⟩, .int .i64 (i : Int), .int .i64 (m : Int)] w fun e w' => e = .returned (.int .i64 (R : Int)) ∧ w' = w := by
  have hs := str_len l
  have hpH : Hidden (∀ c, (bits BinOp.and IntKind.i64 (partsN c.toNat : Int) (m : Int) != 0) = p c) := hp
  clear hp
  go_enter Tryz.func84, Tryz.ntmps84
  go_wp2
  go_loopg [1] (l.length - i) (fun k iv wr => ∃ j : Nat, iv = .int .i64 (j : Int) ∧ j ≤ l.length ∧ j + run p (l.drop j) = R ∧ k = l.length - j ∧ wr = w)
  case atStart => exact ⟨i, rfl, hi, hR, rfl, rfl⟩
  case round =>
    obtain ⟨j, rfl, hj, hf, hgk, rfl⟩ := hrel
    have hgkH : Hidden (gk = l.length - j) := hgk
    clear hgk hR hi
    by_cases hjl : j < l.length
    · obtain ⟨c, hc⟩ : ∃ c, l[j]? = some c := ⟨l[j], List.getElem?_eq_getElem hjl⟩
      rw [run_step p l j c hc] at hf
      have hx := str_index l j c hc
      have kp := parts_walk c.toNat _ rfl
      have hb := hpH c
      clear hc
      cases hpc : p c
      · rw [hpc] at hf hb
        simp only [Bool.false_eq_true, if_false] at hf
        have hfH : Hidden (j = R) := by show _ = _; omega
        clear hf hpc hpH
        go_wp2_with (go_at_call 82; refine (kp _).mono ?_; rintro e w' ⟨rfl, rfl⟩)
        go_ret
        rw [← show j = R from hfH]
        exact ⟨rfl, rfl⟩
      · rw [hpc] at hf hb
        simp only [if_true] at hf
        have hfH : Hidden (j + 1 + run p (l.drop (j + 1)) = R) := by show _ = _; omega
        clear hf hpc
        go_wp2_with (go_at_call 82; refine (kp _).mono ?_; rintro e w' ⟨rfl, rfl⟩)
        go_roundg (l.length - (j + 1))
        case measure =>
          have : gk = l.length - j := hgkH
          omega
        case rel => exact ⟨j + 1, by go_num, by omega, hfH, rfl, rfl⟩
    · obtain rfl : j = l.length := by omega
      rw [List.drop_length, run_nil] at hf
      have hfH : Hidden (l.length = R) := by show _ = _; omega
      clear hf
      go_wp2
      go_ret
      rw [← show l.length = R from hfH]
      exact ⟨rfl, rfl⟩
end Go.Proofs.YtncachlopnpcjaaGreatDoor

namespace Go.Proofs.YtncachlopnpcjaaGreatDoor
open Go.RowKit Lx
set_option linter.unusedSimpArgs false
set_option linter.unusedVariables false

theorem slice_to (l : List UInt8) (i : Nat) (h : i ≤ l.length) (hl : l.length ≤ 9223372036854775807) (w : World) :
    (Instr.slice 9 (.string ⟨l.toArray⟩) none (some (.int .i64 (i : Int))) none).run Tryz.prog w = .ok (.string ⟨(l.take i).toArray⟩) w := by
  have hs : (⟨l.toArray⟩ : ByteArray).size = l.length := by simp [ByteArray.size]
  rw [run_slice_string_to_if _ _ _ _ _ Tryz.underlying9]
  have e : (⟨l.toArray⟩ : ByteArray).extract 0 i = ⟨(l.take i).toArray⟩ := by
    apply ByteArray.ext
    apply Array.ext'
    rw [Lib.extract_data]
    simp
  rw [if_pos (by rw [hs]; omega), Int.toNat_natCast, e]
theorem slice_from (l : List UInt8) (i : Nat) (h : i ≤ l.length) (hl : l.length ≤ 9223372036854775807) (w : World) :
    (Instr.slice 9 (.string ⟨l.toArray⟩) (some (.int .i64 (i : Int))) none none).run Tryz.prog w = .ok (.string ⟨(l.drop i).toArray⟩) w := by
  have hs : (⟨l.toArray⟩ : ByteArray).size = l.length := by simp [ByteArray.size]
  rw [run_slice_string_from_if _ _ _ _ _ Tryz.underlying9]
  have e : (⟨l.toArray⟩ : ByteArray).extract i (⟨l.toArray⟩ : ByteArray).size = ⟨(l.drop i).toArray⟩ := by
    apply ByteArray.ext
    apply Array.ext'
    rw [Lib.extract_to_end]
  rw [if_pos (by rw [hs]; omega), Int.toNat_natCast, e]

theorem remark_walk (l : By) (i R : Nat) (hi : i ≤ l.length) (hl : l.length ≤ 9223372036854775806) (hR : Hidden (i + run (fun c => c != 10) (l.drop i) = R)) (w : World) :
    Calls Tryz.prog 61 #[.string ⟨l.toArray⟩, .int .i64 (i : Int)] w fun e w' => e = .returned (.int .i64 (R : Int)) ∧ w' = w := by
  have hs := str_len l
  go_enter Tryz.func61, Tryz.ntmps61
  go_wp2
  go_loopg [1] (l.length - i) (fun k iv wr => ∃ j : Nat, iv = .int .i64 (j : Int) ∧ j ≤ l.length ∧ j + run (fun c => c != 10) (l.drop j) = R ∧ k = l.length - j ∧ wr = w)
  case atStart => exact ⟨i, rfl, hi, hR, rfl, rfl⟩
  case round =>
    obtain ⟨j, rfl, hj, hf, hgk, rfl⟩ := hrel
    have hgkH : Hidden (gk = l.length - j) := hgk
    clear hgk hR hi
    by_cases hjl : j < l.length
    · obtain ⟨c, hc⟩ : ∃ c, l[j]? = some c := ⟨l[j], List.getElem?_eq_getElem hjl⟩
      rw [run_step _ l j c hc] at hf
      have hx := str_index l j c hc
      clear hc
      by_cases hpc : c = 10
      · subst hpc
        simp only [bne_self_eq_false, Bool.false_eq_true, if_false] at hf
        have hfH : Hidden (j = R) := by show _ = _; omega
        clear hf
        go_wp2
        go_ret
        rw [← show j = R from hfH]
        exact ⟨rfl, rfl⟩
      · have hn : ((c.toNat : Int) != 10) = true := by
          simp only [bne_iff_ne, ne_eq]
          intro e
          exact hpc (UInt8.toNat_inj.1 (by simpa using (by omega : c.toNat = 10)))
        rw [if_pos (by simpa using hpc)] at hf
        have hfH : Hidden (j + 1 + run (fun c => c != 10) (l.drop (j + 1)) = R) := by show _ = _; omega
        clear hf hpc
        go_wp2
        go_roundg (l.length - (j + 1))
        case measure =>
          have : gk = l.length - j := hgkH
          omega
        case rel => exact ⟨j + 1, by go_num, by omega, hfH, rfl, rfl⟩
    · obtain rfl : j = l.length := by omega
      rw [List.drop_length, run_nil] at hf
      have hfH : Hidden (l.length = R) := by show _ = _; omega
      clear hf
      go_wp2
      go_ret
      rw [← show l.length = R from hfH]
      exact ⟨rfl, rfl⟩

/- plain -/
theorem gap_true (l : By) : gapM true l = run (fun c => c != 10) l + gap (l.drop (run (fun c => c != 10) l)) := by
  induction l with
  | nil => rfl
  | cons c r ih =>
    rw [gapM_true, run_cons]
    by_cases h : c = 10
    · subst h
      simp only [if_true, bne_self_eq_false, Bool.false_eq_true, if_false, List.drop_zero, Nat.zero_add]
      show _ = gapM false (10 :: r)
      rw [gapM_false, if_pos (by decide)]
    · rw [if_neg h, if_pos (by simpa using h), ih, List.drop_succ_cons]
      omega
theorem gap_remark (l : By) (j : Nat) (h0 : l[j]? = some 47) (h1 : l[j + 1]? = some 47) : ∃ n, run (fun c => c != 10) (l.drop j) = n + 1 ∧ j + (n + 1) ≤ l.length ∧ gap (l.drop j) = (n + 1) + gap (l.drop (j + (n + 1))) := by
  have e1 := drop_at h0
  have e2 : run (fun c => c != 10) (l.drop j) = run (fun c => c != 10) (l.drop (j + 1)) + 1 := by rw [run_step _ l j 47 h0, if_pos (by decide)]
  have hle := run_le (fun c => c != 10) (l.drop (j + 1))
  have hlt : j < l.length := (List.getElem?_eq_some_iff.1 h0).1
  rw [List.length_drop] at hle
  refine ⟨run (fun c => c != 10) (l.drop (j + 1)), e2, by omega, ?_⟩
  show gapM false (l.drop j) = _
  rw [e1, gapM_false, if_neg (by decide), if_pos ⟨rfl, by rw [drop_zero_get]; exact h1⟩, gap_true, List.drop_drop]
  rw [show j + 1 + run (fun c => c != 10) (l.drop (j + 1)) = j + (run (fun c => c != 10) (l.drop (j + 1)) + 1) by omega]
  omega
theorem gap_blank (l : By) (j : Nat) (c : UInt8) (h0 : l[j]? = some c) (hb : blB c = true) : gap (l.drop j) = 1 + gap (l.drop (j + 1)) := by
  show gapM false (l.drop j) = _
  rw [drop_at h0, gapM_false, if_pos hb]
theorem gap_none (l : By) (j : Nat) (c : UInt8) (h0 : l[j]? = some c) (hb : blB c = false) (hn : ¬ (c = 47 ∧ l[j + 1]? = some 47)) : gap (l.drop j) = 0 := by
  show gapM false (l.drop j) = _
  rw [drop_at h0, gapM_false, if_neg (by simp [hb]), if_neg (by rw [drop_zero_get]; exact hn)]
theorem pre2 (l : By) (a b : UInt8) (j : Nat) : Lib.hasPrefix (l.drop j) [a, b] = (l[j]? == some a && l[j + 1]? == some b) := by
  unfold Lib.hasPrefix
  cases h : l[j]? with
  | none =>
    rw [List.getElem?_eq_none_iff] at h
    rw [List.drop_eq_nil_of_le h]
    rfl
  | some c =>
    rw [drop_at h]
    cases h2 : l[j + 1]? with
    | none =>
      rw [List.getElem?_eq_none_iff] at h2
      rw [List.drop_eq_nil_of_le h2]
      simp [List.isPrefixOf]
    | some d =>
      rw [drop_at h2]
      rw [Bool.eq_iff_iff]
      simp only [List.isPrefixOf, Bool.and_true, Bool.and_eq_true, beq_iff_eq, Option.some.injEq]
      exact ⟨fun h => ⟨h.1.symm, h.2.symm⟩, fun h => ⟨h.1.symm, h.2.symm⟩⟩
theorem bl_nat (c : UInt8) : (c.toNat == 32 || c.toNat == 9 || c.toNat == 10 || c.toNat == 13) = blB c := by
  have h : ∀ k < 256, (k == 32 || k == 9 || k == 10 || k == 13) = blB (UInt8.ofNat k) := by decide +kernel
  have := h c.toNat c.toNat_lt
  simpa using this

theorem gapEnd_walk (l : By) (i R : Nat) (hi : i ≤ l.length) (hl : l.length ≤ 9223372036854775806) (hR : Hidden (i + gap (l.drop i) = R)) (w : World) :
    Calls Tryz.prog 44 #[.string ⟨l.toArray⟩, .int .i64 (i : Int)] w fun e w' => e = .returned (.int .i64 (R : Int)) ∧ w' = w := by
  have hs := str_len l
  go_enter Tryz.func44, Tryz.ntmps44
  go_wp2
  go_loopg [1] (l.length - i) (fun k iv wr => ∃ j : Nat, iv = .int .i64 (j : Int) ∧ j ≤ l.length ∧ j + gap (l.drop j) = R ∧ k = l.length - j ∧ wr = w)
  case atStart => exact ⟨i, rfl, hi, hR, rfl, rfl⟩
  case round =>
    obtain ⟨j, rfl, hj, hf, hgk, rfl⟩ := hrel
    have hgkH : Hidden (gk = l.length - j) := hgk
    clear hgk hR hi
    by_cases hjl : j < l.length
    · obtain ⟨c, hc⟩ : ∃ c, l[j]? = some c := ⟨l[j], List.getElem?_eq_getElem hjl⟩
      have hx := str_index l j c hc
      have kb := blank_walk c.toNat _ rfl
      rw [bl_nat] at kb
      have hsl := slice_from l j hj (by omega)
      have kh := Tryz.strings_HasPrefix ⟨(l.drop j).toArray⟩ ⟨#[47, 47]⟩
      simp only [] at kh
      rw [pre2] at kh
      cases hb : blB c
      · rw [hb] at kb
        by_cases hn : c = 47 ∧ l[j + 1]? = some 47
        · obtain ⟨rfl, hn2⟩ := hn
          rw [show (l[j]? == some 47 && l[j + 1]? == some 47) = true by rw [hc, hn2]; rfl] at kh
          obtain ⟨n, hr, hle, hg⟩ := gap_remark l j hc hn2
          have kr := remark_walk l j (j + (n + 1)) hj hl (by show _ = _; rw [hr])
          rw [hg] at hf
          have hfH : Hidden (j + (n + 1) + gap (l.drop (j + (n + 1))) = R) := by show _ = _; omega
          have hleH : Hidden (j + (n + 1) ≤ l.length) := hle
          clear hf hr hle hg hn2 hc hb
          go_wp2_with (first
            | (go_at_call 59; refine (kb _).mono ?_; rintro e w' ⟨rfl, rfl⟩)
            | (go_at_call 60; refine (kh _).mono ?_; rintro e w' ⟨rfl, rfl⟩)
            | (go_at_call 61; refine (kr _).mono ?_; rintro e w' ⟨rfl, rfl⟩))
          go_roundg (l.length - (j + (n + 1)))
          case measure =>
            have : gk = l.length - j := hgkH
            omega
          case rel => exact ⟨j + (n + 1), by go_num, hleH, hfH, rfl, rfl⟩
        · have hgn := gap_none l j c hc hb hn
          rw [show (l[j]? == some 47 && l[j + 1]? == some 47) = false by
            rw [hc, Bool.eq_false_iff]
            intro h
            simp only [Bool.and_eq_true, beq_iff_eq, Option.some.injEq] at h
            exact hn h] at kh
          rw [hgn] at hf
          have hfH : Hidden (j = R) := by show _ = _; omega
          clear hf hgn hn hc hb
          go_wp2_with (first
            | (go_at_call 59; refine (kb _).mono ?_; rintro e w' ⟨rfl, rfl⟩)
            | (go_at_call 60; refine (kh _).mono ?_; rintro e w' ⟨rfl, rfl⟩))
          go_ret
          rw [← show j = R from hfH]
          exact ⟨rfl, rfl⟩
      · rw [hb] at kb
        have hg := gap_blank l j c hc hb
        rw [hg] at hf
        have hfH : Hidden (j + 1 + gap (l.drop (j + 1)) = R) := by show _ = _; omega
        clear hf hg hc hb
        go_wp2_with (first
            | (go_at_call 59; refine (kb _).mono ?_; rintro e w' ⟨rfl, rfl⟩))
        go_roundg (l.length - (j + 1))
        case measure =>
          have : gk = l.length - j := hgkH
          omega
        case rel => exact ⟨j + 1, by go_num, by omega, hfH, rfl, rfl⟩
    · obtain rfl : j = l.length := by omega
      rw [List.drop_length] at hf
      have hfH : Hidden (l.length = R) := by show _ = _; simp only [gap, gapM] at hf; omega
      clear hf
      go_wp2
      go_ret
      rw [← show l.length = R from hfH]
      exact ⟨rfl, rfl⟩
end Go.Proofs.YtncachlopnpcjaaGreatDoor

namespace Go.Proofs.YtncachlopnpcjaaGreatDoor
open Go.RowKit Lx
set_option linter.unusedSimpArgs false
set_option linter.unusedVariables false

def oneN (n : Nat) : Bool := n == 40 || n == 41 || n == 123 || n == 125 || n == 44 || n == 59 || n == 58 || n == 46 || n == 61 || n == 43 || n == 45 || n == 42 || n == 47 || n == 37 || n == 60 || n == 62 || n == 33
theorem one_nat (c : UInt8) : oneN c.toNat = one c := by
  have h : ∀ k < 256, oneN k = one (UInt8.ofNat k) := by decide +kernel
  have := h c.toNat c.toNat_lt
  simpa using this
set_option maxHeartbeats 1000000 in
theorem mark_walk (l q : By) (n r : Nat) (hl : l.length ≤ 9223372036854775806)
    (hsl : ∀ w, (Instr.slice 9 (.string ⟨l.toArray⟩) none (some (.int .i64 (min 2 (l.length : Int)))) none).run Tryz.prog w = .ok (.string ⟨q.toArray⟩) w)
    (hx : ∀ w, (Instr.index 9 (.string ⟨l.toArray⟩) (.int .i64 0)).run Tryz.prog w = .ok (.int .u8 (n : Int)) w)
    (h1 : (q == [60, 61]) = false) (h2 : (q == [62, 61]) = false) (h3 : (q == [61, 61]) = false) (h4 : (q == [33, 61]) = false) (h5 : (q == [38, 38]) = false) (h6 : (q == [124, 124]) = false)
    (hr : Hidden ((if oneN n = true then 1 else 0) = r)) (w : World) :
    Calls Tryz.prog 86 #[.string ⟨l.toArray⟩] w fun e w' => e = .returned (.int .i64 (r : Int)) ∧ w' = w := by
  have hs := str_len l
  go_enter Tryz.func86, Tryz.ntmps86
  go_wp2
  all_goals (go_ret; refine ⟨?_, rfl⟩; rw [← (show (if oneN n = true then 1 else 0) = r from hr)]; clear hr hsl hx h1 h2 h3 h4 h5 h6)
  all_goals (first
    | (have hz : oneN n = true := by (simp only [beq_iff_eq, beq_eq_false_iff_ne, ne_eq, oneN, Bool.or_eq_true] at *; omega)
       rw [hz]; rfl)
    | (have hz : oneN n = false := by (simp only [beq_iff_eq, beq_eq_false_iff_ne, ne_eq, oneN, Bool.or_eq_false_iff] at *; omega)
       rw [hz]; rfl))

theorem slice_min (l : By) (hl : l.length ≤ 9223372036854775807) (w : World) : (Instr.slice 9 (.string ⟨l.toArray⟩) none (some (.int .i64 (min 2 (l.length : Int)))) none).run Tryz.prog w = .ok (.string ⟨(l.take 2).toArray⟩) w := by
  have := slice_to l (min 2 l.length) (by omega) hl w
  rw [show ((min 2 l.length : Nat) : Int) = min 2 (l.length : Int) by omega] at this
  have e : l.take (min 2 l.length) = l.take 2 := by
    by_cases h : 2 ≤ l.length
    · rw [Nat.min_eq_left h]
    · rw [Nat.min_eq_right (by omega), List.take_length, List.take_of_length_le (by omega)]
  rw [e] at this
  exact this
theorem mark_two (l q : By) (hl : l.length ≤ 9223372036854775806)
    (hsl : ∀ w, (Instr.slice 9 (.string ⟨l.toArray⟩) none (some (.int .i64 (min 2 (l.length : Int)))) none).run Tryz.prog w = .ok (.string ⟨q.toArray⟩) w)
    (hq : q = [60, 61] ∨ q = [62, 61] ∨ q = [61, 61] ∨ q = [33, 61] ∨ q = [38, 38] ∨ q = [124, 124]) (w : World) :
    Calls Tryz.prog 86 #[.string ⟨l.toArray⟩] w fun e w' => e = .returned (.int .i64 2) ∧ w' = w := by
  have hs := str_len l
  rcases hq with rfl | rfl | rfl | rfl | rfl | rfl
  all_goals
    go_enter Tryz.func86, Tryz.ntmps86
    go_wp2
    go_ret
    exact ⟨rfl, rfl⟩
theorem two_eq (a b : UInt8) : two a b = true ↔ ([a, b] = [60, 61] ∨ [a, b] = [62, 61] ∨ [a, b] = [61, 61] ∨ [a, b] = [33, 61] ∨ [a, b] = [38, 38] ∨ [a, b] = [124, 124]) := by
  simp only [two, Bool.or_eq_true, Bool.and_eq_true, beq_iff_eq, List.cons.injEq, and_true]
  constructor
  · rintro ((⟨rfl, ((rfl | rfl) | rfl) | rfl⟩ | ⟨rfl, rfl⟩) | ⟨rfl, rfl⟩) <;> simp
  · rintro (⟨rfl, rfl⟩ | ⟨rfl, rfl⟩ | ⟨rfl, rfl⟩ | ⟨rfl, rfl⟩ | ⟨rfl, rfl⟩ | ⟨rfl, rfl⟩) <;> simp
theorem mark_any (l : By) (r : Nat) (h0 : l ≠ []) (hl : l.length ≤ 9223372036854775806) (hr : mkLen l = r) (w : World) :
    Calls Tryz.prog 86 #[.string ⟨l.toArray⟩] w fun e w' => e = .returned (.int .i64 (r : Int)) ∧ w' = w := by
  subst hr
  match l, h0 with
  | [a], _ =>
    have hx : ∀ w, (Instr.index 9 (.string ⟨([a] : By).toArray⟩) (.int .i64 0)).run Tryz.prog w = .ok (.int .u8 (a.toNat : Int)) w := str_index [a] 0 a rfl
    exact mark_walk [a] [a] a.toNat _ hl (slice_min [a] (by simp)) hx (by simp) (by simp) (by simp) (by simp) (by simp) (by simp) (by show _ = _; rw [one_nat]; rfl) w
  | a :: b :: t, _ =>
    have hx : ∀ w, (Instr.index 9 (.string ⟨(a :: b :: t).toArray⟩) (.int .i64 0)).run Tryz.prog w = .ok (.int .u8 (a.toNat : Int)) w := str_index (a :: b :: t) 0 a rfl
    have hsl := slice_min (a :: b :: t) (by omega)
    have ht := two_eq a b
    cases h2 : two a b
    · have hne : ¬ ([a, b] = [60, 61] ∨ [a, b] = [62, 61] ∨ [a, b] = [61, 61] ∨ [a, b] = [33, 61] ∨ [a, b] = [38, 38] ∨ [a, b] = [124, 124]) := fun h => by rw [ht.2 h] at h2; cases h2
      refine mark_walk (a :: b :: t) [a, b] a.toNat _ hl hsl hx ?_ ?_ ?_ ?_ ?_ ?_ (by show _ = _; rw [one_nat]; simp [mkLen, h2]) w
      all_goals (rw [beq_eq_false_iff_ne]; intro e; exact hne (by simp [e]))
    · have := mark_two (a :: b :: t) [a, b] hl hsl (ht.1 h2) w
      rw [show mkLen (a :: b :: t) = 2 by simp [mkLen, h2]]
      exact this

theorem slice_mid (l : By) (i j : Nat) (h : i ≤ j) (hj : j ≤ l.length) (hl : l.length ≤ 9223372036854775807) (w : World) :
    (Instr.slice 9 (.string ⟨l.toArray⟩) (some (.int .i64 (i : Int))) (some (.int .i64 (j : Int))) none).run Tryz.prog w = .ok (.string ⟨((l.drop i).take (j - i)).toArray⟩) w := by
  have hs : (⟨l.toArray⟩ : ByteArray).size = l.length := by simp [ByteArray.size]
  rw [run_slice_string_if _ _ _ _ _ _ _ Tryz.underlying9]
  have e : (⟨l.toArray⟩ : ByteArray).extract i j = ⟨((l.drop i).take (j - i)).toArray⟩ := by
    apply ByteArray.ext
    apply Array.ext'
    rw [Lib.extract_data]
  rw [if_pos (by rw [hs]; omega), Int.toNat_natCast, Int.toNat_natCast, e, if_pos (by omega)]
end Go.Proofs.YtncachlopnpcjaaGreatDoor

namespace Go.Proofs.YtncachlopnpcjaaGreatDoor
open Go.RowKit Lx
set_option linter.unusedSimpArgs false
set_option linter.unusedVariables false

theorem pre1 (l : By) (a : UInt8) (j : Nat) : Lib.hasPrefix (l.drop j) [a] = (l[j]? == some a) := by
  unfold Lib.hasPrefix
  cases h : l[j]? with
  | none =>
    rw [List.getElem?_eq_none_iff] at h
    rw [List.drop_eq_nil_of_le h]
    rfl
  | some c =>
    rw [drop_at h, Bool.eq_iff_iff]
    simp only [List.isPrefixOf, Bool.and_true, beq_iff_eq, Option.some.injEq]
    exact ⟨fun h => h.symm, fun h => h.symm⟩
theorem pre_take (l : By) (a b : UInt8) : Lib.hasPrefix l [a, b] = decide (l.take 2 = [a, b]) := by
  have h := pre2 l a b 0
  rw [List.drop_zero] at h
  rw [h]
  match l with
  | [] => rfl
  | [c] => simp
  | c :: d :: r =>
    rw [Bool.eq_iff_iff]
    simp
theorem has2 (l : By) (a b : UInt8) (w : World) : Calls Tryz.prog 60 #[.string ⟨l.toArray⟩, .string ⟨#[a, b]⟩] w fun e w' => e = .returned (.bool (decide (l.take 2 = [a, b]))) ∧ w' = w := by
  have := Tryz.strings_HasPrefix ⟨l.toArray⟩ ⟨#[a, b]⟩ w
  simp only [] at this
  rw [pre_take] at this
  exact this
theorem has1 (l : By) (a : UInt8) (j : Nat) (w : World) : Calls Tryz.prog 60 #[.string ⟨(l.drop j).toArray⟩, .string ⟨#[a]⟩] w fun e w' => e = .returned (.bool (l[j]? == some a)) ∧ w' = w := by
  have := Tryz.strings_HasPrefix ⟨(l.drop j).toArray⟩ ⟨#[a]⟩ w
  simp only [] at this
  rw [pre1] at this
  exact this
theorem p1 (c : UInt8) : (bits BinOp.and IntKind.i64 (partsN c.toNat : Int) ((1 : Nat) : Int) != 0) = dgt c := (parts_dgt c).1
theorem p2 (c : UInt8) : (bits BinOp.and IntKind.i64 (partsN c.toNat : Int) ((2 : Nat) : Int) != 0) = hxB c := (parts_dgt c).2.1
theorem p4 (c : UInt8) : (bits BinOp.and IntKind.i64 (partsN c.toNat : Int) ((4 : Nat) : Int) != 0) = nmB c := (parts_dgt c).2.2

theorem ln_hex (l : By) (i n : Nat) (hi : i + 2 ≤ l.length) (hl : l.length ≤ 9223372036854775800) (h : Hidden ((l.drop i).take 2 = [48, 120])) (hn : Hidden (run hxB (l.drop (i + 2)) = n)) (w : World) :
    Calls Tryz.prog 83 #[.string ⟨l.toArray⟩, .int .i64 (i : Int)] w fun e w' => e = .returned (.tuple #[.int .i64 4, .int .i64 ((i + 2 + n : Nat) : Int)]) ∧ w' = w := by
  have hsl := slice_from l i (by omega) (by omega)
  have kh := has2 (l.drop i) 48 120
  rw [show decide ((l.drop i).take 2 = [48, 120]) = true from decide_eq_true h] at kh
  have kr := runEnd_walk l (i + 2) 2 (i + 2 + n) hxB p2 hi (by omega) (by show _ = _; rw [show run hxB (l.drop (i + 2)) = n from hn])
  go_enter Tryz.func83, Tryz.ntmps83
  go_wp2_with (first
    | (go_at_call 60; refine (kh _).mono ?_; rintro e w' ⟨rfl, rfl⟩)
    | (go_at_call 84; refine (kr _).mono ?_; rintro e w' ⟨rfl, rfl⟩))
  go_ret2
  exact ⟨rfl, rfl⟩
theorem ln_int (l : By) (i a : Nat) (hi : i ≤ l.length) (ha : a ≤ l.length) (hl : l.length ≤ 9223372036854775800) (h : Hidden (¬ (l.drop i).take 2 = [48, 120])) (hn : Hidden (i + run dgt (l.drop i) = a)) (hp : Hidden ((l[a]? == some 46) = false)) (w : World) :
    Calls Tryz.prog 83 #[.string ⟨l.toArray⟩, .int .i64 (i : Int)] w fun e w' => e = .returned (.tuple #[.int .i64 3, .int .i64 (a : Int)]) ∧ w' = w := by
  have hsl := slice_from l i (by omega) (by omega)
  have hsl2 := slice_from l a ha (by omega)
  have kh := has2 (l.drop i) 48 120
  rw [show decide ((l.drop i).take 2 = [48, 120]) = false from decide_eq_false h] at kh
  have kh2 := has1 l 46 a
  rw [show (l[a]? == some 46) = false from hp] at kh2
  have kr := runEnd_walk l i 1 a dgt p1 (by omega) (by omega) hn
  go_enter Tryz.func83, Tryz.ntmps83
  go_wp2_with fail
  go_at_call 60; refine (kh _).mono ?_; rintro e w' ⟨rfl, rfl⟩
  go_wp2_with fail
  go_at_call 84; refine (kr _).mono ?_; rintro e w' ⟨rfl, rfl⟩
  go_wp2_with fail
  go_at_call 60; refine (kh2 _).mono ?_; rintro e w' ⟨rfl, rfl⟩
  go_wp2_with fail
  go_ret2
  exact ⟨rfl, rfl⟩
theorem ln_point (l : By) (i a b : Nat) (t : Bool) (hi : i ≤ l.length) (ha : a + 1 ≤ l.length) (hl : l.length ≤ 9223372036854775800) (h : Hidden (¬ (l.drop i).take 2 = [48, 120])) (hn : Hidden (i + run dgt (l.drop i) = a)) (hp : Hidden ((l[a]? == some 46) = true)) (hm : Hidden (a + 1 + run dgt (l.drop (a + 1)) = b))
    (ht : ((b : Int) == (a : Int) + 1) = t) (w : World) :
    Calls Tryz.prog 83 #[.string ⟨l.toArray⟩, .int .i64 (i : Int)] w fun e w' => e = .returned (.tuple #[.int .i64 (if t then 3 else 4), .int .i64 (if t then (a : Int) else (b : Int))]) ∧ w' = w := by
  have hsl := slice_from l i (by omega) (by omega)
  have hsl2 := slice_from l a (by omega) (by omega)
  have kh := has2 (l.drop i) 48 120
  rw [show decide ((l.drop i).take 2 = [48, 120]) = false from decide_eq_false h] at kh
  have kh2 := has1 l 46 a
  rw [show (l[a]? == some 46) = true from hp] at kh2
  have kr := runEnd_walk l i 1 a dgt p1 (by omega) (by omega) hn
  have kr2 := runEnd_walk l (a + 1) 1 b dgt p1 (by omega) (by omega) hm
  cases t
  all_goals
    go_enter Tryz.func83, Tryz.ntmps83
    go_wp2_with fail
    go_at_call 60; refine (kh _).mono ?_; rintro e w' ⟨rfl, rfl⟩
    go_wp2_with fail
    go_at_call 84; refine (kr _).mono ?_; rintro e w' ⟨rfl, rfl⟩
    go_wp2_with fail
    go_at_call 60; refine (kh2 _).mono ?_; rintro e w' ⟨rfl, rfl⟩
    go_wp2_with fail
    go_at_call 84; refine (kr2 _).mono ?_; rintro e w' ⟨rfl, rfl⟩
    go_wp2_with fail
    go_ret2
    exact ⟨rfl, rfl⟩
theorem ret_two {k1 k2 : IntKind} {a b c d : Int} (h1 : a = c) (h2 : b = d) : Ending.returned (.tuple #[.int k1 a, .int k2 b]) = .returned (.tuple #[.int k1 c, .int k2 d]) := by rw [h1, h2]
/-- longestNumber. -/
theorem ln_any (l : By) (i k n : Nat) (hi : i < l.length) (hl : l.length ≤ 9223372036854775800) (h : numLen (l.drop i) = (k, n)) (w : World) :
    Calls Tryz.prog 83 #[.string ⟨l.toArray⟩, .int .i64 (i : Int)] w fun e w' => e = .returned (.tuple #[.int .i64 (k : Int), .int .i64 ((i + n : Nat) : Int)]) ∧ w' = w := by
  unfold numLen at h
  by_cases e1 : (l.drop i).take 2 = [48, 120]
  · rw [if_pos e1] at h
    simp only [Prod.mk.injEq, List.drop_drop] at h
    obtain ⟨rfl, h⟩ := h
    have hlen : i + 2 ≤ l.length := by
      have := congrArg List.length e1
      simp only [List.length_take, List.length_drop, List.length_cons, List.length_nil] at this
      omega
    have := ln_hex l i _ hlen hl e1 rfl w
    rw [show i + 2 + run hxB (l.drop (i + 2)) = i + n by omega] at this
    exact this
  · rw [if_neg e1] at h
    have hr := run_le dgt (l.drop i)
    rw [List.length_drop] at hr
    obtain ⟨a, ha⟩ : ∃ a, i + run dgt (l.drop i) = a := ⟨_, rfl⟩
    have e2 : (l.drop i)[run dgt (l.drop i)]? = l[a]? := by rw [List.getElem?_drop, ha]
    rw [e2, List.drop_drop, show i + (run dgt (l.drop i) + 1) = a + 1 by omega] at h
    by_cases e3 : l[a]? = some 46
    · have hal : a < l.length := (List.getElem?_eq_some_iff.1 e3).1
      obtain ⟨b, hb⟩ : ∃ b, a + 1 + run dgt (l.drop (a + 1)) = b := ⟨_, rfl⟩
      by_cases e4 : run dgt (l.drop (a + 1)) = 0
      · rw [if_neg (by rw [e4]; simp)] at h
        simp only [Prod.mk.injEq] at h
        obtain ⟨rfl, h⟩ := h
        have := ln_point l i a b true (by omega) hal hl e1 ha (by show _ = _; rw [e3]; rfl) hb (by simp; omega) w
        simp only [if_true] at this
        rw [show i + n = a by omega]
        exact this
      · rw [if_pos ⟨e3, e4⟩] at h
        simp only [Prod.mk.injEq] at h
        obtain ⟨rfl, h⟩ := h
        have := ln_point l i a b false (by omega) hal hl e1 ha (by show _ = _; rw [e3]; rfl) hb (by rw [beq_eq_false_iff_ne]; omega) w
        simp only [Bool.false_eq_true, if_false] at this
        rw [show i + n = b by omega]
        exact this
    · rw [if_neg (fun hh => e3 hh.1)] at h
      simp only [Prod.mk.injEq] at h
      obtain ⟨rfl, h⟩ := h
      have := ln_int l i a (by omega) (by omega) hl e1 ha (by show _ = _; rw [beq_eq_false_iff_ne]; exact e3) w
      rw [show i + n = a by omega]
      exact this
end Go.Proofs.YtncachlopnpcjaaGreatDoor

namespace Go.Proofs.YtncachlopnpcjaaGreatDoor
open Go.RowKit Lx
set_option linter.unusedSimpArgs false
set_option linter.unusedVariables false

theorem fr_of_kept {w w' : World} (h : w.keptBut w' (fun _ => False)) (hs : w.heap.size ≤ w'.heap.size) : Fr (fun _ => False) w w' := by
  refine ⟨h.1, h.2.1, hs, fun k hk _ => ?_⟩
  have := h.2.2 k hk
  cases e1 : w.heap[k]? with
  | none => rw [e1] at this; cases e2 : w'.heap[k]? <;> rw [e2] at this <;> simp_all
  | some o =>
    rw [e1] at this
    cases e2 : w'.heap[k]? with
    | none => rw [e2] at this; cases o <;> simp_all
    | some o' =>
      rw [e2] at this
      cases o with
      | cells c t fr =>
        cases o' with
        | cells c' t' fr' =>
          simp only at this
          obtain ⟨rfl, rfl, _, hc⟩ := this
          have e : c' = c := by
            apply Array.ext_getElem?
            intro j
            exact hc j (fun h => h)
          rw [e]
        | _ => simp_all
      | map es clock =>
        cases o' with
        | map es' clock' =>
          simp only [false_or] at this
          rw [this.1, this.2]
        | _ => simp_all
      | _ => simp_all
theorem tab_fr {w w' : World} (h : F.Tab w) (hf : Fr (fun _ => False) w w') : F.Tab w' := F.tab_kb h ⟨hf.kept, hf.size⟩

theorem longest_num (l : By) (i n : Nat) (k m : Int) (hi : i < l.length) (hl : l.length ≤ 9223372036854775800)
    (hx : ∀ w, (Instr.index 9 (.string ⟨l.toArray⟩) (.int .i64 (i : Int))).run Tryz.prog w = .ok (.int .u8 (n : Int)) w) (ht : (bits BinOp.and IntKind.i64 (partsN n : Int) 1 != 0) = true)
    (kn : ∀ w, Calls Tryz.prog 83 #[.string ⟨l.toArray⟩, .int .i64 (i : Int)] w fun e w' => e = .returned (.tuple #[.int .i64 k, .int .i64 m]) ∧ w' = w) (w : World) :
    Calls Tryz.prog 62 #[.string ⟨l.toArray⟩, .int .i64 (i : Int)] w fun e w' => e = .returned (.tuple #[.int .i64 k, .int .i64 m]) ∧ w' = w := by
  have hs := str_len l
  have kp := parts_walk n _ rfl
  go_enter Tryz.func62, Tryz.ntmps62
  go_wp2_with (first
    | (go_at_call 82; refine (kp _).mono ?_; rintro e w' ⟨rfl, rfl⟩)
    | (go_at_call 83; refine (kn _).mono ?_; rintro e w' ⟨rfl, rfl⟩))
  go_ret2
  exact ⟨rfl, rfl⟩
theorem longest_name (l q : By) (i n a : Nat) (r : Bool) (hi : i < l.length) (ha : a ≤ l.length) (hia : i ≤ a) (hl : l.length ≤ 9223372036854775800)
    (hx : ∀ w, (Instr.index 9 (.string ⟨l.toArray⟩) (.int .i64 (i : Int))).run Tryz.prog w = .ok (.int .u8 (n : Int)) w) (ht : (bits BinOp.and IntKind.i64 (partsN n : Int) 1 != 0) = false) (ht4 : (bits BinOp.and IntKind.i64 (partsN n : Int) 4 != 0) = true)
    (hq : Hidden ((l.drop i).take (a - i) = q)) (hr : Hidden (decide (q ∈ wordsL) = r)) (hn : Hidden (i + run nmB (l.drop i) = a)) (w : World) :
    Calls Tryz.prog 62 #[.string ⟨l.toArray⟩, .int .i64 (i : Int)] w fun e w' => e = .returned (.tuple #[.int .i64 (if r then 2 else 1), .int .i64 (a : Int)]) ∧ w' = w := by
  have hs := str_len l
  have kp := parts_walk n _ rfl
  have hsl := slice_mid l i a hia ha (by omega)
  rw [show (l.drop i).take (a - i) = q from hq] at hsl
  have kr := reserved_any q r hr
  have ke := runEnd_walk l i 4 a nmB p4 (by omega) (by omega) hn
  cases r
  all_goals
    go_enter Tryz.func62, Tryz.ntmps62
    go_wp2_with (first
      | (go_at_call 82; refine (kp _).mono ?_; rintro e w' ⟨rfl, rfl⟩)
      | (go_at_call 84; refine (ke _).mono ?_; rintro e w' ⟨rfl, rfl⟩)
      | (go_at_call 85; refine (kr _).mono ?_; rintro e w' ⟨rfl, rfl⟩))
    go_ret2
    exact ⟨rfl, rfl⟩
theorem longest_mark (l : By) (i n m : Nat) (hi : i < l.length) (hm : m ≤ 2) (hl : l.length ≤ 9223372036854775800)
    (hx : ∀ w, (Instr.index 9 (.string ⟨l.toArray⟩) (.int .i64 (i : Int))).run Tryz.prog w = .ok (.int .u8 (n : Int)) w) (ht : (bits BinOp.and IntKind.i64 (partsN n : Int) 1 != 0) = false) (ht4 : (bits BinOp.and IntKind.i64 (partsN n : Int) 4 != 0) = false)
    (hn : Hidden (mkLen (l.drop i) = m)) (h0 : Hidden (l.drop i ≠ [])) (w : World) :
    Calls Tryz.prog 62 #[.string ⟨l.toArray⟩, .int .i64 (i : Int)] w fun e w' => e = .returned (.tuple #[.int .i64 5, .int .i64 ((i + m : Nat) : Int)]) ∧ w' = w := by
  have hs := str_len l
  have kp := parts_walk n _ rfl
  have hsl := slice_from l i (by omega) (by omega)
  have km := mark_any (l.drop i) m h0 (by rw [List.length_drop]; omega) hn
  go_enter Tryz.func62, Tryz.ntmps62
  go_wp2_with (first
    | (go_at_call 82; refine (kp _).mono ?_; rintro e w' ⟨rfl, rfl⟩)
    | (go_at_call 86; refine (km _).mono ?_; rintro e w' ⟨rfl, rfl⟩))
  go_ret2
  exact ⟨rfl, rfl⟩
theorem longest_any (l : By) (i k n : Nat) (hi : i < l.length) (hl : l.length ≤ 9223372036854775800) (h : kindLen wordsL (l.drop i) = (k, n)) (w : World) :
    Calls Tryz.prog 62 #[.string ⟨l.toArray⟩, .int .i64 (i : Int)] w fun e w' => e = .returned (.tuple #[.int .i64 (k : Int), .int .i64 ((i + n : Nat) : Int)]) ∧ w' = w := by
  obtain ⟨c, hc⟩ : ∃ c, l[i]? = some c := ⟨l[i], List.getElem?_eq_getElem hi⟩
  have hx := str_index l i c hc
  have ed := drop_at hc
  have hne : l.drop i ≠ [] := by rw [ed]; simp
  rw [ed, kind_cons, ← ed] at h
  have pd := parts_dgt c
  by_cases hd : dgt c = true
  · rw [if_pos hd] at h
    exact longest_num l i c.toNat k ((i + n : Nat) : Int) hi hl hx (pd.1.trans hd) (ln_any l i k n hi hl h) w
  · rw [if_neg hd] at h
    have hd' : dgt c = false := by simpa using hd
    have hle := kind_le wordsL (l.drop i)
    by_cases hlt : ltr c = true
    · rw [if_pos hlt] at h
      simp only [Prod.mk.injEq] at h
      obtain ⟨h1, h2⟩ := h
      have hr := run_le nmB (l.drop i)
      rw [List.length_drop] at hr
      have := longest_name l ((l.drop i).take (i + n - i)) i c.toNat (i + n) _ hi (by omega) (by omega) hl hx (pd.1.trans hd') (pd.2.2.trans (by simp [nmB, hlt])) rfl rfl (by show _ = _; omega) w
      rw [show i + n - i = run nmB (l.drop i) by omega] at this
      rw [← h1]
      by_cases hw : (l.drop i).take (run nmB (l.drop i)) ∈ wordsL
      · simp only [decide_eq_true hw, if_true, if_pos hw] at this ⊢
        exact this
      · simp only [decide_eq_false hw, Bool.false_eq_true, if_false, if_neg hw] at this ⊢
        exact this
    · rw [if_neg hlt] at h
      simp only [Prod.mk.injEq] at h
      obtain ⟨rfl, h2⟩ := h
      have hm : n ≤ 2 := by
        rw [← h2]
        match l.drop i with
        | [] => simp [mkLen]
        | [a] => simp only [mkLen]; split <;> omega
        | a :: b :: r => simp only [mkLen]; repeat' split
                         all_goals omega
      exact longest_mark l i c.toNat n hi hm hl hx (pd.1.trans hd') (pd.2.2.trans (by simp [nmB, hd', hlt])) h2 hne w

def noughts : By → By
  | [] => []
  | [c] => [c]
  | c :: d :: r => if c = 48 then noughts (d :: r) else c :: d :: r
theorem noughts_walk (l R : By) (hl : l.length ≤ 9223372036854775800) (hR : Hidden (noughts l = R)) (w : World) :
    Calls Tryz.prog 88 #[.string ⟨l.toArray⟩] w fun e w' => e = .returned (.string ⟨R.toArray⟩) ∧ w' = w := by
  go_enter Tryz.func88, Tryz.ntmps88
  go_wp2
  go_loopg [0] l.length (fun k iv wr => ∃ q : By, iv = .string ⟨q.toArray⟩ ∧ q.length ≤ l.length ∧ noughts q = R ∧ k = q.length ∧ wr = w)
  case atStart => exact ⟨l, rfl, by omega, hR, rfl, rfl⟩
  case round =>
    obtain ⟨q, rfl, hq, hf, hgk, rfl⟩ := hrel
    have hgkH : Hidden (gk = q.length) := hgk
    clear hgk hR
    have hs := str_len q
    by_cases h1 : 1 < q.length
    · obtain ⟨c, d, r, hqe⟩ : ∃ c d r, q = c :: d :: r := by
        match q with
        | [] => simp at h1
        | [c] => simp at h1
        | c :: d :: r => exact ⟨c, d, r, rfl⟩
      have hx : ∀ w, (Instr.index 9 (.string ⟨q.toArray⟩) (.int .i64 0)).run Tryz.prog w = .ok (.int .u8 (c.toNat : Int)) w := str_index q 0 c (by rw [hqe]; rfl)
      have hsl : ∀ w, (Instr.slice 9 (.string ⟨q.toArray⟩) (some (.int .i64 1)) none none).run Tryz.prog w = .ok (.string ⟨(q.drop 1).toArray⟩) w := slice_from q 1 (by omega) (by omega)
      by_cases hc : c = 48
      · have hcn : ((c.toNat : Int) == 48) = true := by rw [hc]; rfl
        have hfH : Hidden (noughts (q.drop 1) = R) := by
          show _ = _
          rw [hqe] at hf ⊢
          rw [← hf, hc]
          simp [noughts]
        have hlH : Hidden ((q.drop 1).length + 1 = q.length) := by show _ = _; rw [List.length_drop]; omega
        clear hf hc hqe
        go_wp2
        go_roundg ((q.drop 1).length)
        case measure =>
          have : gk = q.length := hgkH
          have : (q.drop 1).length + 1 = q.length := hlH
          omega
        case rel =>
          have : (q.drop 1).length + 1 = q.length := hlH
          exact ⟨q.drop 1, by rw [List.drop_one], by omega, hfH, rfl, rfl⟩
      · have hcn : ((c.toNat : Int) == 48) = false := by
          rw [beq_eq_false_iff_ne]
          intro e
          exact hc (UInt8.toNat_inj.1 (by simpa using (by omega : c.toNat = 48)))
        have hfH : Hidden (q = R) := by
          show _ = _
          rw [hqe] at hf ⊢
          rw [← hf]
          simp [noughts, hc]
        clear hf hc hqe
        go_wp2
        go_ret
        rw [← show q = R from hfH]
        exact ⟨rfl, rfl⟩
    · have hfH : Hidden (q = R) := by
        show _ = _
        match q, h1 with
        | [], _ => exact hf
        | [c], _ => exact hf
        | c :: d :: r, h1 => simp at h1
      clear hf
      go_wp2
      go_ret
      rw [← show q = R from hfH]
      exact ⟨rfl, rfl⟩

/-- The results of a function whose first one lies in memory. -/
theorem post_cell {fn : Func} {R : Ending → World → Prop} {a : Act} {w : World} {p u : Tmp} {ty : TypeId} (h : fn.results = #[.cell p ty, .tmp u]) (hd : a.defers = []) (g : Nat) (cs : Array Value)
    (hp : a.tmps.getD p undef = .pointer (some ⟨g, 0, none⟩)) (hl : (loadVar ty ⟨g, 0, none⟩).run Tryz.prog w = .ok (.agg cs) w)
    (hR : R (.returned (.tuple #[.agg cs, a.tmps.getD u undef])) w) : bodyPost Tryz.prog fn R .ret a w := by
  refine ⟨hd, _, ?_, hR⟩
  rw [results_cell_tmp h, hp]
  simp [asAddr, hl, Result.andThen]
theorem info_val : (Tryz.prog.info? 36).map (·.size) = some 2 := by kernel_rfl
theorem info_tok : (Tryz.prog.info? 90).map (·.size) = some 5 := by kernel_rfl
theorem valueOf_walk (t b e t' b' : Int) (h : Hidden ((e = 0 ∧ t' = t ∧ b' = b) ∨ (e ≠ 0 ∧ t' = 0 ∧ b' = 0))) (w : World) :
    Calls Tryz.prog 89 #[.int .i64 t, .int .u64 b, .int .i64 e] w fun r w' => r = .returned (.tuple #[.agg #[.int .i64 t', .int .u64 b'], .int .i64 e]) ∧ Fr (fun _ => False) w w' := by
  rcases h with ⟨rfl, rfl, rfl⟩ | ⟨h, rfl, rfl⟩
  · go_enter Tryz.func89, Tryz.ntmps89
    go_wp2
    exact post_cell rfl rfl w.heap.size _ rfl (run_loadVar_row _ _ _ _ _ _ _ (alloc_new _ _) Tryz.underlying36 rfl info_val) ⟨rfl, Fr.alloc _ _ _⟩
  · have h1 : (e != 0) = true := by simpa using h
    clear h
    go_enter Tryz.func89, Tryz.ntmps89
    go_wp2
    exact post_cell rfl rfl w.heap.size _ rfl (run_loadVar_row _ _ _ _ _ _ _ (alloc_new _ _) Tryz.underlying36 rfl info_val) ⟨rfl, Fr.alloc _ _ _⟩

/-- What a token means: its value's type and bits, and an error. -/
def valS (k : Nat) (x : By) : Int × Int × Int :=
  if k = 1 then (0, 0, if 32 < x.length then 12 else 0)
  else if k = 3 then (if (I.natS (noughts x)).2.2 = 0 then (1, (I.natS (noughts x)).1, 0) else (0, 0, (I.natS (noughts x)).2.2))
  else if k = 4 then (if x.take 2 = [48, 120] then (if (F.parseS x).2 = 0 then (2, (F.parseS x).1, 0) else (0, 0, (F.parseS x).2)) else (if (F.litS x).2 = 0 then (2, (F.litS x).1, 0) else (0, 0, (F.litS x).2)))
  else (0, 0, 0)
theorem noughts_le : ∀ (l : By), (noughts l).length ≤ l.length
  | [] => by simp [noughts]
  | [c] => by simp [noughts]
  | c :: d :: r => by
    unfold noughts
    split
    · have := noughts_le (d :: r)
      simp only [List.length_cons] at this ⊢
      omega
    · simp
theorem meaning_name (x : By) (e : Int) (hl : x.length ≤ 9223372036854775800) (h : Hidden ((if 32 < x.length then 12 else 0) = e)) (w : World) :
    Calls Tryz.prog 63 #[.int .i64 1, .string ⟨x.toArray⟩] w fun r w' => r = .returned (.tuple #[.agg #[.int .i64 0, .int .u64 0], .int .i64 e]) ∧ Fr (fun _ => False) w w' := by
  have hs := str_len x
  by_cases h1 : 32 < x.length
  · have he : 12 = e := by rw [← (show _ = e from h), if_pos h1]
    subst he
    go_enter Tryz.func63, Tryz.ntmps63
    go_wp2
    exact post_cell rfl rfl w.heap.size _ rfl (run_loadVar_row _ _ _ _ _ _ _ (alloc_new _ _) Tryz.underlying36 rfl info_val) ⟨rfl, Fr.alloc _ _ _⟩
  · have he : 0 = e := by rw [← (show _ = e from h), if_neg h1]
    subst he
    go_enter Tryz.func63, Tryz.ntmps63
    go_wp2
    exact post_cell rfl rfl w.heap.size _ rfl (run_loadVar_row _ _ _ _ _ _ _ (alloc_new _ _) Tryz.underlying36 rfl info_val) ⟨rfl, Fr.alloc _ _ _⟩
theorem meaning_plain (k : Nat) (x : By) (hk : k = 2 ∨ k = 5) (w : World) :
    Calls Tryz.prog 63 #[.int .i64 (k : Int), .string ⟨x.toArray⟩] w fun r w' => r = .returned (.tuple #[.agg #[.int .i64 0, .int .u64 0], .int .i64 0]) ∧ Fr (fun _ => False) w w' := by
  rcases hk with rfl | rfl
  all_goals
    go_enter Tryz.func63, Tryz.ntmps63
    go_wp2
    exact post_cell rfl rfl w.heap.size _ rfl (run_loadVar_row _ _ _ _ _ _ _ (alloc_new _ _) Tryz.underlying36 rfl info_val) ⟨rfl, Fr.alloc _ _ _⟩
end Go.Proofs.YtncachlopnpcjaaGreatDoor

namespace Go.Proofs.YtncachlopnpcjaaGreatDoor
open Go.RowKit Lx
set_option linter.unusedSimpArgs false
set_option linter.unusedVariables false

theorem setRow_fr (w : World) (g : Nat) (cs : Array Value) : Fr (fun k => k = g) w (w.setRow g cs) := ⟨rfl, rfl, by simp, fun k _ hn => setRow_other w g k cs (fun e => hn e)⟩

theorem frozen_row {w : World} {g : Nat} {cs : Array Value} {t : TypeId} (hg : w.heap[g]? = some (.cells cs t (0, 0))) (j : Nat) : w.frozen? ⟨g, j, none⟩ = false := by simp [World.frozen?, hg]
theorem set_two {w : World} {g : Nat} {a b : Value} {t : TypeId} (hg : w.heap[g]? = some (.cells #[a, b] t (0, 0))) (x y : Value) : ((w.setCell ⟨g, 0, none⟩ x).setCell ⟨g, 1, none⟩ y).heap[g]? = some (.cells #[x, y] t (0, 0)) := by
  have h1 := heap_setCell_same w g 0 #[a, b] t x hg
  have h2 := heap_setCell_same (w.setCell ⟨g, 0, none⟩ x) g 1 _ t y h1
  exact h2
theorem post_val {fn : Func} {R : Ending → World → Prop} {a : Act} {w : World} {p u : Tmp} {g : Nat} {x y : Value} {t b : Int} (hg : w.heap[g]? = some (.cells #[x, y] 36 (0, 0))) (h : fn.results = #[.cell p 36, .tmp u]) (hd : a.defers = [])
    (hp : a.tmps.getD p undef = .pointer (some ⟨g, 0, none⟩)) (hR : R (.returned (.tuple #[.agg #[.int .i64 t, .int .u64 b], a.tmps.getD u undef])) ((w.setCell ⟨g, 0, none⟩ (.int .i64 t)).setCell ⟨g, 1, none⟩ (.int .u64 b))) :
    bodyPost Tryz.prog fn R .ret a ((w.setCell ⟨g, 0, none⟩ (.int .i64 t)).setCell ⟨g, 1, none⟩ (.int .u64 b)) :=
  post_cell h hd g #[.int .i64 t, .int .u64 b] hp (run_loadVar_row _ _ _ _ _ _ _ (set_two hg _ _) Tryz.underlying36 rfl info_val) hR
theorem fr_two {S : Nat → Prop} {w w' : World} (h : Fr S w w') {g : Nat} (hg : w.heap.size ≤ g) (i j : Nat) (x y : Value) : Fr S w ((w'.setCell ⟨g, i, none⟩ x).setCell ⟨g, j, none⟩ y) :=
  h.over ((Fr.setCell w' ⟨g, i, none⟩ x).same (Fr.setCell _ ⟨g, j, none⟩ y)) (fun k hk => by subst hk; exact hg)
set_option maxRecDepth 20000 in
theorem meaning_int (x y : By) (v p e t' b' : Int) (hl : x.length ≤ 9223372036854775800) (hy : Hidden (noughts x = y)) (hn : Hidden (I.natS y = (v, p, e))) (hv : 0 ≤ v) (hv2 : v ≤ 9223372036854775807)
    (h : Hidden ((e = 0 ∧ t' = 1 ∧ b' = v) ∨ (e ≠ 0 ∧ t' = 0 ∧ b' = 0))) (w : World) :
    Calls Tryz.prog 63 #[.int .i64 3, .string ⟨x.toArray⟩] w fun r w' => r = .returned (.tuple #[.agg #[.int .i64 t', .int .u64 b'], .int .i64 e]) ∧ Fr (fun _ => False) w w' := by
  have k1 := noughts_walk x y hl hy
  have hyl : y.length ≤ 9223372036854775807 := by have := noughts_le x; rw [show noughts x = y from hy] at this; omega
  have k2 := I.nat_any y v p e hn hyl
  have k3 := valueOf_walk 1 v e t' b' h
  clear hyl
  go_enter Tryz.func63, Tryz.ntmps63
  go_wp2_with (first
    | (go_at_call 88; refine (k1 _).mono ?_; rintro e w' ⟨rfl, rfl⟩)
    | (go_at_call 87; refine (k2 _).mono ?_; rintro e W1 ⟨rfl, g1⟩; have f1 := fr_of_kept g1.1 g1.2)
    | (go_at_call 89; refine (k3 _).mono ?_; rintro e W2 ⟨rfl, f2⟩
       have hg : Hidden (W2.heap[w.heap.size]? = some (.cells #[.int .i64 0, .int .u64 0] 36 (0, 0))) := f2.heap (f1.heap (alloc_new _ _) (fun f => f)) (fun f => f)
       have hc0 : W2.cell? ⟨w.heap.size, 0, none⟩ = some (.int .i64 0) := cell_of_row _ _ 0 _ _ _ hg
       have hc1 : W2.cell? ⟨w.heap.size, 1, none⟩ = some (.int .u64 0) := cell_of_row _ _ 1 _ _ _ hg
       have hf0 := frozen_row hg 0
       have hf1 := frozen_row hg 1))
  (try simp only [Exit.inBlock, Exit.then])
  refine post_val hg rfl rfl rfl ⟨rfl, ?_⟩
  exact fr_two (((Fr.alloc (fun _ => False) w _).over f1 (fun _ h => h.elim)).over f2 (fun _ h => h.elim)) (Nat.le_refl _) 0 1 _ _
set_option maxRecDepth 20000 in
theorem meaning_float (x : By) (hx : Bool) (v e t' b' : Int) (hl : x.length ≤ 9223372036854775800) (hh : Hidden (decide (x.take 2 = [48, 120]) = hx)) (hn : Hidden ((if hx then F.parseS x else F.litS x) = (v, e)))
    (h : Hidden ((e = 0 ∧ t' = 2 ∧ b' = v) ∨ (e ≠ 0 ∧ t' = 0 ∧ b' = 0))) (w : World) (htab : F.Tab w) :
    Calls Tryz.prog 63 #[.int .i64 4, .string ⟨x.toArray⟩] w fun r w' => r = .returned (.tuple #[.agg #[.int .i64 t', .int .u64 b'], .int .i64 e]) ∧ Fr (fun _ => False) w w' := by
  have k1 := has2 x 48 120
  rw [show decide (x.take 2 = [48, 120]) = hx from hh] at k1
  have k3 := valueOf_walk 2 v e t' b' h
  have htab1 : F.Tab (w.alloc (.cells #[.int .i64 0, .int .u64 0] 36 (0, 0))) := tab_fr htab (Fr.alloc _ _ _)
  cases hx
  · have k2 := F.lit_any x v e hn (by omega)
    go_enter Tryz.func63, Tryz.ntmps63
    go_wp2_with (first
      | (go_at_call 60; refine (k1 _).mono ?_; rintro e w' ⟨rfl, rfl⟩)
      | (go_at_call 90; refine (k2 _).mono ?_; rintro e W1 ⟨rfl, g1⟩; have f1 := fr_of_kept g1.1 g1.2)
      | (go_at_call 89; refine (k3 _).mono ?_; rintro e W2 ⟨rfl, f2⟩
         have hg : Hidden (W2.heap[w.heap.size]? = some (.cells #[.int .i64 0, .int .u64 0] 36 (0, 0))) := f2.heap (f1.heap (alloc_new _ _) (fun f => f)) (fun f => f)
         have hc0 : W2.cell? ⟨w.heap.size, 0, none⟩ = some (.int .i64 0) := cell_of_row _ _ 0 _ _ _ hg
         have hc1 : W2.cell? ⟨w.heap.size, 1, none⟩ = some (.int .u64 0) := cell_of_row _ _ 1 _ _ _ hg
         have hf0 := frozen_row hg 0
         have hf1 := frozen_row hg 1))
    (try simp only [Exit.inBlock, Exit.then])
    refine post_val hg rfl rfl rfl ⟨rfl, ?_⟩
    exact fr_two (((Fr.alloc (fun _ => False) w _).over f1 (fun _ h => h.elim)).over f2 (fun _ h => h.elim)) (Nat.le_refl _) 0 1 _ _
  · have k2 := F.parse_any x v e hn (by omega)
    go_enter Tryz.func63, Tryz.ntmps63
    go_wp2_with (first
      | (go_at_call 60; refine (k1 _).mono ?_; rintro e w' ⟨rfl, rfl⟩)
      | (go_at_call 91; refine (k2 _ htab1).mono ?_; rintro e W1 ⟨rfl, g1⟩; have f1 := fr_of_kept g1.1 g1.2)
      | (go_at_call 89; refine (k3 _).mono ?_; rintro e W2 ⟨rfl, f2⟩
         have hg : Hidden (W2.heap[w.heap.size]? = some (.cells #[.int .i64 0, .int .u64 0] 36 (0, 0))) := f2.heap (f1.heap (alloc_new _ _) (fun f => f)) (fun f => f)
         have hc0 : W2.cell? ⟨w.heap.size, 0, none⟩ = some (.int .i64 0) := cell_of_row _ _ 0 _ _ _ hg
         have hc1 : W2.cell? ⟨w.heap.size, 1, none⟩ = some (.int .u64 0) := cell_of_row _ _ 1 _ _ _ hg
         have hf0 := frozen_row hg 0
         have hf1 := frozen_row hg 1))
    (try simp only [Exit.inBlock, Exit.then])
    refine post_val hg rfl rfl rfl ⟨rfl, ?_⟩
    exact fr_two (((Fr.alloc (fun _ => False) w _).over f1 (fun _ h => h.elim)).over f2 (fun _ h => h.elim)) (Nat.le_refl _) 0 1 _ _
theorem nat_v (y : By) : 0 ≤ (I.natS y).1 ∧ (I.natS y).1 ≤ 9223372036854775807 := by
  have := I.amt_bounds 9223372036854775807 y (I.natS y).1 (I.natS y).2.1 (I.natS y).2.2 rfl
  omega
theorem meaning_any (k : Nat) (x : By) (t b e : Int) (hk : 1 ≤ k ∧ k ≤ 5) (hl : x.length ≤ 9223372036854775800) (h : valS k x = (t, b, e)) (w : World) (htab : F.Tab w) :
    Calls Tryz.prog 63 #[.int .i64 (k : Int), .string ⟨x.toArray⟩] w fun r w' => r = .returned (.tuple #[.agg #[.int .i64 t, .int .u64 b], .int .i64 e]) ∧ Fr (fun _ => False) w w' := by
  unfold valS at h
  obtain rfl | rfl | rfl | rfl | rfl : k = 1 ∨ k = 2 ∨ k = 3 ∨ k = 4 ∨ k = 5 := by omega
  · rw [if_pos rfl] at h
    cases h
    exact meaning_name x _ hl rfl w
  · simp only [Nat.reduceEqDiff, if_false] at h
    cases h
    exact meaning_plain 2 x (Or.inl rfl) w
  · simp only [Nat.reduceEqDiff, if_false, if_true] at h
    have hv := nat_v (noughts x)
    refine meaning_int x _ (I.natS (noughts x)).1 (I.natS (noughts x)).2.1 e t b hl rfl ?_ hv.1 hv.2 ?_ w
    · show _ = _
      split at h
      · rename_i h0
        cases h
        rw [← h0]
      · cases h
        rfl
    · split at h
      · cases h
        exact Or.inl ⟨rfl, rfl, rfl⟩
      · rename_i h0
        cases h
        exact Or.inr ⟨h0, rfl, rfl⟩
  · simp only [Nat.reduceEqDiff, if_false, if_true] at h
    by_cases hx : x.take 2 = [48, 120]
    · rw [if_pos hx] at h
      refine meaning_float x true (F.parseS x).1 e t b hl (decide_eq_true hx) ?_ ?_ w htab
      · show _ = _
        simp only [if_true]
        split at h
        · rename_i h0
          cases h
          rw [← h0]
        · cases h
          rfl
      · split at h
        · cases h
          exact Or.inl ⟨rfl, rfl, rfl⟩
        · rename_i h0
          cases h
          exact Or.inr ⟨h0, rfl, rfl⟩
    · rw [if_neg hx] at h
      refine meaning_float x false (F.litS x).1 e t b hl (decide_eq_false hx) ?_ ?_ w htab
      · show _ = _
        simp only [Bool.false_eq_true, if_false]
        split at h
        · rename_i h0
          cases h
          rw [← h0]
        · cases h
          rfl
      · split at h
        · cases h
          exact Or.inl ⟨rfl, rfl, rfl⟩
        · rename_i h0
          cases h
          exact Or.inr ⟨h0, rfl, rfl⟩
  · simp only [Nat.reduceEqDiff, if_false] at h
    cases h
    exact meaning_plain 5 x (Or.inr rfl) w
end Go.Proofs.YtncachlopnpcjaaGreatDoor

namespace Go.Proofs.YtncachlopnpcjaaGreatDoor
open Go.RowKit Lx
set_option linter.unusedSimpArgs false
set_option linter.unusedVariables false

theorem set_five {w : World} {g : Nat} {a b c d e : Value} {t : TypeId} (hg : w.heap[g]? = some (.cells #[a, b, c, d, e] t (0, 0))) (v0 v1 v2 v3 v4 : Value) :
    (((((w.setCell ⟨g, 0, none⟩ v0).setCell ⟨g, 1, none⟩ v1).setCell ⟨g, 2, none⟩ v2).setCell ⟨g, 3, none⟩ v3).setCell ⟨g, 4, none⟩ v4).heap[g]? = some (.cells #[v0, v1, v2, v3, v4] t (0, 0)) := by
  have h1 := heap_setCell_same w g 0 _ t v0 hg
  have h2 := heap_setCell_same _ g 1 _ t v1 h1
  have h3 := heap_setCell_same _ g 2 _ t v2 h2
  have h4 := heap_setCell_same _ g 3 _ t v3 h3
  exact heap_setCell_same _ g 4 _ t v4 h4
theorem kind_range (words : List By) (u : By) : 1 ≤ (kindLen words u).1 ∧ (kindLen words u).1 ≤ 5 := by
  cases u with
  | nil => simp [kindLen]
  | cons c r =>
    rw [kind_cons]
    split
    · unfold numLen
      split
      · simp
      · split <;> simp
    · split
      · simp only []
        split <;> simp
      · simp
theorem post_tok {fn : Func} {R : Ending → World → Prop} {a : Act} {w : World} {p u : Tmp} {g : Nat} {x0 x1 x2 x3 x4 v0 v1 v2 v3 v4 : Value} (hg : w.heap[g]? = some (.cells #[x0, x1, x2, x3, x4] 90 (0, 0))) (h : fn.results = #[.cell p 90, .tmp u]) (hd : a.defers = [])
    (hp : a.tmps.getD p undef = .pointer (some ⟨g, 0, none⟩)) (hR : R (.returned (.tuple #[.agg #[v0, v1, v2, v3, v4], a.tmps.getD u undef])) (((((w.setCell ⟨g, 0, none⟩ v0).setCell ⟨g, 1, none⟩ v1).setCell ⟨g, 2, none⟩ v2).setCell ⟨g, 3, none⟩ v3).setCell ⟨g, 4, none⟩ v4)) :
    bodyPost Tryz.prog fn R .ret a (((((w.setCell ⟨g, 0, none⟩ v0).setCell ⟨g, 1, none⟩ v1).setCell ⟨g, 2, none⟩ v2).setCell ⟨g, 3, none⟩ v3).setCell ⟨g, 4, none⟩ v4) :=
  post_cell h hd g #[v0, v1, v2, v3, v4] hp (run_loadVar_row _ _ _ _ _ _ _ (set_five hg _ _ _ _ _) Tryz.underlying90 rfl info_tok) hR
theorem fr_five {S : Nat → Prop} {w w' : World} (h : Fr S w w') {g : Nat} (hg : w.heap.size ≤ g) (v0 v1 v2 v3 v4 : Value) :
    Fr S w (((((w'.setCell ⟨g, 0, none⟩ v0).setCell ⟨g, 1, none⟩ v1).setCell ⟨g, 2, none⟩ v2).setCell ⟨g, 3, none⟩ v3).setCell ⟨g, 4, none⟩ v4) :=
  h.over (((((Fr.setCell w' ⟨g, 0, none⟩ v0).same (Fr.setCell _ ⟨g, 1, none⟩ v1)).same (Fr.setCell _ ⟨g, 2, none⟩ v2)).same (Fr.setCell _ ⟨g, 3, none⟩ v3)).same (Fr.setCell _ ⟨g, 4, none⟩ v4)) (fun k hk => by subst hk; exact hg)
def tokA (k : Int) (x : By) (t b p : Int) : Value := .agg #[.int .i64 k, .string ⟨x.toArray⟩, .int .i64 t, .int .u64 b, .int .i64 p]

theorem tokenAt_none (l : By) (i k : Nat) (hl : l.length ≤ 9223372036854775800)
    (kl : ∀ w, Calls Tryz.prog 62 #[.string ⟨l.toArray⟩, .int .i64 (i : Int)] w fun e w' => e = .returned (.tuple #[.int .i64 (k : Int), .int .i64 (i : Int)]) ∧ w' = w) (w : World) :
    Calls Tryz.prog 45 #[.string ⟨l.toArray⟩, .int .i64 (i : Int)] w fun r w' => r = .returned (.tuple #[.agg #[.int .i64 0, .string ⟨#[]⟩, .int .i64 0, .int .u64 0, .int .i64 0], .int .i64 10]) ∧ Fr (fun _ => False) w w' := by
  go_enter Tryz.func45, Tryz.ntmps45
  go_wp2_with (first
    | (go_at_call 62; refine (kl _).mono ?_; rintro e w' ⟨rfl, rfl⟩))
  exact post_cell rfl rfl w.heap.size _ rfl (run_loadVar_row _ _ _ _ _ _ _ (alloc_new _ _) Tryz.underlying90 rfl info_tok) ⟨rfl, Fr.alloc _ _ _⟩

set_option maxRecDepth 20000 in
set_option maxHeartbeats 1000000 in
theorem tokenAt_some (l x : By) (i k j : Nat) (t b e : Int) (hl : l.length ≤ 9223372036854775800) (hij : i < j) (hj : j ≤ l.length) (hx : Hidden ((l.drop i).take (j - i) = x))
    (kl : ∀ w, Calls Tryz.prog 62 #[.string ⟨l.toArray⟩, .int .i64 (i : Int)] w fun e w' => e = .returned (.tuple #[.int .i64 (k : Int), .int .i64 (j : Int)]) ∧ w' = w)
    (km : ∀ w, F.Tab w → Calls Tryz.prog 63 #[.int .i64 (k : Int), .string ⟨x.toArray⟩] w fun r w' => r = .returned (.tuple #[.agg #[.int .i64 t, .int .u64 b], .int .i64 e]) ∧ Fr (fun _ => False) w w') (w : World) (htab : F.Tab w) :
    Calls Tryz.prog 45 #[.string ⟨l.toArray⟩, .int .i64 (i : Int)] w fun r w' => r = .returned (.tuple #[.agg #[.int .i64 (k : Int), .string ⟨x.toArray⟩, .int .i64 t, .int .u64 b, .int .i64 (i : Int)], .int .i64 e]) ∧ Fr (fun _ => False) w w' := by
  have hsl := slice_mid l i j (by omega) hj (by omega)
  rw [show (l.drop i).take (j - i) = x from hx] at hsl
  have hne : ((j : Int) == (i : Int)) = false := by rw [beq_eq_false_iff_ne]; omega
  have ht2 : Hidden (F.Tab ((w.alloc (.cells #[.int .i64 0, .string ⟨#[]⟩, .int .i64 0, .int .u64 0, .int .i64 0] 90 (0, 0))).alloc (.cells #[.int .i64 (k : Int), .string ⟨x.toArray⟩, .int .i64 0, .int .u64 0, .int .i64 (i : Int)] 90 (0, 0)))) := tab_fr (tab_fr htab (Fr.alloc _ _ _)) (Fr.alloc _ _ _)
  go_enter Tryz.func45, Tryz.ntmps45
  go_wp2_with (first
    | (go_at_call 62; refine (kl _).mono ?_; rintro e w' ⟨rfl, rfl⟩)
    | (go_at_call 63; refine (km _ ht2).mono ?_; rintro e W1 ⟨rfl, f1⟩
       have ha : Hidden (W1.heap[w.heap.size]? = some (.cells #[.int .i64 0, .string ⟨#[]⟩, .int .i64 0, .int .u64 0, .int .i64 0] 90 (0, 0))) := f1.heap (heap_alloc2_old _ _ _) (fun f => f)
       have hb : Hidden (W1.heap[w.heap.size + 1]? = some (.cells #[.int .i64 (k : Int), .string ⟨x.toArray⟩, .int .i64 0, .int .u64 0, .int .i64 (i : Int)] 90 (0, 0))) := f1.heap (heap_alloc2_new _ _ _) (fun f => f)
       have ca0 : W1.cell? ⟨w.heap.size, 0, none⟩ = some (.int .i64 0) := cell_of_row _ _ 0 _ _ _ ha
       have fa0 := frozen_row ha 0
       have ca1 : W1.cell? ⟨w.heap.size, 1, none⟩ = some (.string ⟨#[]⟩) := cell_of_row _ _ 1 _ _ _ ha
       have fa1 := frozen_row ha 1
       have ca2 : W1.cell? ⟨w.heap.size, 2, none⟩ = some (.int .i64 0) := cell_of_row _ _ 2 _ _ _ ha
       have fa2 := frozen_row ha 2
       have ca3 : W1.cell? ⟨w.heap.size, 3, none⟩ = some (.int .u64 0) := cell_of_row _ _ 3 _ _ _ ha
       have fa3 := frozen_row ha 3
       have ca4 : W1.cell? ⟨w.heap.size, 4, none⟩ = some (.int .i64 0) := cell_of_row _ _ 4 _ _ _ ha
       have fa4 := frozen_row ha 4
       have cb0 : W1.cell? ⟨w.heap.size + 1, 0, none⟩ = some (.int .i64 (k : Int)) := cell_of_row _ _ 0 _ _ _ hb
       have fb0 := frozen_row hb 0
       have cb1 : W1.cell? ⟨w.heap.size + 1, 1, none⟩ = some (.string ⟨x.toArray⟩) := cell_of_row _ _ 1 _ _ _ hb
       have fb1 := frozen_row hb 1
       have cb2 : W1.cell? ⟨w.heap.size + 1, 2, none⟩ = some (.int .i64 0) := cell_of_row _ _ 2 _ _ _ hb
       have fb2 := frozen_row hb 2
       have cb3 : W1.cell? ⟨w.heap.size + 1, 3, none⟩ = some (.int .u64 0) := cell_of_row _ _ 3 _ _ _ hb
       have fb3 := frozen_row hb 3
       have cb4 : W1.cell? ⟨w.heap.size + 1, 4, none⟩ = some (.int .i64 (i : Int)) := cell_of_row _ _ 4 _ _ _ hb
       have fb4 := frozen_row hb 4
       skip))
  have ha2 : ((W1.setCell ⟨w.heap.size + 1, 2, none⟩ (.int .i64 t)).setCell ⟨w.heap.size + 1, 3, none⟩ (.int .u64 b)).heap[w.heap.size]? = some (.cells #[.int .i64 0, .string ⟨#[]⟩, .int .i64 0, .int .u64 0, .int .i64 0] 90 (0, 0)) := by
    rw [heap_setCell_other _ _ _ _ (by show w.heap.size ≠ w.heap.size + 1; omega), heap_setCell_other _ _ _ _ (by show w.heap.size ≠ w.heap.size + 1; omega)]
    exact ha
  refine post_tok ha2 rfl rfl rfl ⟨rfl, ?_⟩
  exact fr_five (fr_two (((Fr.alloc (fun _ => False) w _).same (Fr.alloc _ _ _)).same f1) (by omega) 2 3 _ _) (Nat.le_refl _) _ _ _ _ _
/-- tokenAt: no token begins there, or its kind, text, value and place, and an error. -/
theorem tokenAt_any (l : By) (i k n : Nat) (hi : i < l.length) (hl : l.length ≤ 9223372036854775800) (h : kindLen wordsL (l.drop i) = (k, n)) (w : World) (htab : F.Tab w) :
    Calls Tryz.prog 45 #[.string ⟨l.toArray⟩, .int .i64 (i : Int)] w fun r w' => (n = 0 → r = .returned (.tuple #[.agg #[.int .i64 0, .string ⟨#[]⟩, .int .i64 0, .int .u64 0, .int .i64 0], .int .i64 10])) ∧
      (n ≠ 0 → r = .returned (.tuple #[.agg #[.int .i64 (k : Int), .string ⟨((l.drop i).take n).toArray⟩, .int .i64 (valS k ((l.drop i).take n)).1, .int .u64 (valS k ((l.drop i).take n)).2.1, .int .i64 (i : Int)], .int .i64 (valS k ((l.drop i).take n)).2.2])) ∧ Fr (fun _ => False) w w' := by
  have kl := longest_any l i k n hi hl h
  have hle := kind_le wordsL (l.drop i)
  rw [h, List.length_drop] at hle
  by_cases h0 : n = 0
  · subst h0
    exact (tokenAt_none l i k hl kl w).mono fun r w' ⟨h1, h2⟩ => ⟨fun _ => h1, fun h => absurd rfl h, h2⟩
  · have hk := kind_range wordsL (l.drop i)
    rw [h] at hk
    have hlx : ((l.drop i).take n).length ≤ 9223372036854775800 := by rw [List.length_take, List.length_drop]; omega
    have := tokenAt_some l ((l.drop i).take n) i k (i + n) (valS k ((l.drop i).take n)).1 (valS k ((l.drop i).take n)).2.1 (valS k ((l.drop i).take n)).2.2 hl (by omega) (by simp only at hle; omega) (by show _ = _; rw [show i + n - i = n by omega]) kl
      (fun w ht => meaning_any k _ _ _ _ hk hlx rfl w ht) w htab
    exact this.mono fun r w' ⟨h1, h2⟩ => ⟨fun h => absurd h h0, fun _ => h1, h2⟩
end Go.Proofs.YtncachlopnpcjaaGreatDoor

namespace Go.Proofs.YtncachlopnpcjaaGreatDoor
open Go.RowKit Lx
set_option linter.unusedSimpArgs false
set_option linter.unusedVariables false

def tokC (t : Tok) : List Value := [.int .i64 (t.k : Int), .string ⟨t.x.toArray⟩, .int .i64 t.ty, .int .u64 t.b, .int .i64 (t.p : Int)]
/-- A row of tokens of the call's own. -/
def Tr (w : World) (B : Nat) (e : TypeId) (v : Value) (ts : List Tok) : Prop := w.ownsRow B e 5 v ts.length (ts.flatMap tokC)
/-- Tokens that can be read at v. -/
def Tk (w : World) (v : Value) (ts : List Tok) : Prop :=
  ∃ ao cap, v = .slice ao ts.length cap ∧ ts.length ≤ cap ∧ cap ≤ maxLen ∧
    (ts = [] ∨ ∃ b off, ao = some ⟨b, off, none⟩ ∧ ∀ (i : Nat) (t : Tok), ts[i]? = some t → ∀ (j : Nat) (x : Value), (tokC t)[j]? = some x → w.cell? ⟨b, off + i * 5 + j, none⟩ = some x)
theorem flat_len (ts : List Tok) : (ts.flatMap tokC).length = ts.length * 5 := by
  induction ts with
  | nil => rfl
  | cons t ts ih => rw [List.flatMap_cons, List.length_append, ih, List.length_cons]; simp [tokC]; omega
theorem flat_get (ts : List Tok) (i : Nat) (t : Tok) (h : ts[i]? = some t) (j : Nat) (x : Value) (hj : (tokC t)[j]? = some x) : (ts.flatMap tokC)[i * 5 + j]? = some x := by
  induction ts generalizing i with
  | nil => simp at h
  | cons t' ts ih =>
    have hl : (tokC t').length = 5 := rfl
    have hj5 : j < 5 := (List.getElem?_eq_some_iff.1 hj).1
    rw [List.flatMap_cons]
    cases i with
    | zero =>
      have : t' = t := by simpa using h
      subst this
      rw [List.getElem?_append_left (by rw [hl]; omega)]
      simpa using hj
    | succ i =>
      rw [List.getElem?_append_right (by rw [hl]; omega), hl, show (i + 1) * 5 + j - 5 = i * 5 + j by omega]
      exact ih i (by simpa using h)
theorem Tr.nil (w : World) (B : Nat) (e : TypeId) : Tr w B e (.slice none 0 0) [] := World.ownsRow_nil w B e 5
theorem Tr.tk {w : World} {B : Nat} {e : TypeId} {v : Value} {ts : List Tok} (h : Tr w B e v ts) : Tk w v ts := by
  obtain ⟨h1, h2⟩ := h
  rcases h2 with ⟨rfl, h0⟩ | ⟨g, cap, cur, rfl, hb, hg, hnc, hcm, hcs, ht⟩
  · obtain rfl : ts = [] := List.eq_nil_of_length_eq_zero h0
    exact ⟨none, 0, rfl, by simp, by simp, Or.inl rfl⟩
  · refine ⟨some ⟨g, 0, none⟩, cap, rfl, hnc, hcm, Or.inr ⟨g, 0, rfl, fun i t hi j x hj => ?_⟩⟩
    have hf := flat_get ts i t hi j x hj
    rw [show (0 : Nat) + i * 5 + j = i * 5 + j by omega, cell_of_row w g _ cur e (0, 0) hg]
    rw [← ht, List.getElem?_take] at hf
    split at hf
    · simpa using hf
    · cases hf
theorem Tr.keep {S : Nat → Prop} {w w' : World} {B : Nat} {e : TypeId} {v : Value} {ts : List Tok} (h : Tr w B e v ts) (hf : Fr S w w') (hS : ∀ k, v.ownBlock = some k → ¬ S k) : Tr w' B e v ts := by
  obtain ⟨h1, h2⟩ := h
  refine ⟨h1, ?_⟩
  rcases h2 with h0 | ⟨g, cap, cur, rfl, hb, hg, hr⟩
  · exact Or.inl h0
  · exact Or.inr ⟨g, cap, cur, rfl, hb, hf.heap hg (hS g rfl), hr⟩
theorem Tk.keep {S : Nat → Prop} {w w' : World} {v : Value} {ts : List Tok} (h : Tk w v ts) (hf : Fr S w w') (hS : ∀ k, v.ownBlock = some k → ¬ S k) : Tk w' v ts := by
  obtain ⟨ao, cap, rfl, h1, h2, h3⟩ := h
  refine ⟨ao, cap, rfl, h1, h2, ?_⟩
  rcases h3 with h0 | ⟨b, off, rfl, hc⟩
  · exact Or.inl h0
  · exact Or.inr ⟨b, off, rfl, fun i t hi j x hj => hf.cell (hc i t hi j x hj) (hS b rfl)⟩
theorem Tk.keepN {w w' : World} {v : Value} {ts : List Tok} (h : Tk w v ts) (hf : Fr (fun _ => False) w w') : Tk w' v ts := h.keep hf (fun _ _ f => f)
theorem Tr.keepN {w w' : World} {B : Nat} {e : TypeId} {v : Value} {ts : List Tok} (h : Tr w B e v ts) (hf : Fr (fun _ => False) w w') : Tr w' B e v ts := h.keep hf (fun _ _ f => f)

theorem info_tok3 : (Tryz.prog.info? 90).map (fun i => (i.zero, i.size, i.bytes)) = some (some (.agg #[.int .i64 0, .string ⟨#[]⟩, .int .i64 0, .int .u64 0, .int .i64 0]), 5, 48) := by kernel_rfl
theorem tok_arr (t : Tok) (i : Nat) (u : Value) (h : (tokC t)[i]? = some u) : (#[.int .i64 (t.k : Int), .string ⟨t.x.toArray⟩, .int .i64 t.ty, .int .u64 t.b, .int .i64 (t.p : Int)] : Array Value)[i]? = some u := by
  have : (tokC t).toArray[i]? = some u := by simpa using h
  exact this
theorem one_all (t : Tok) : ∀ u ∈ tokC t, u.oneCell' = true := by
  intro u hu
  simp only [tokC, List.mem_cons, List.not_mem_nil, or_false] at hu
  rcases hu with rfl | rfl | rfl | rfl | rfl <;> rfl
/-- append of one token to a row of the call's own. -/
theorem wpList_tok {w : World} {ops : Array Oper} {rest : List Oper} {o : Oper} {a : Act} {Q : Exit → Act → World → Prop} (hgd : o.guard = none) (s x : Operand) (ty e : TypeId)
    (hty : Tryz.prog.underlying ty = some (.slice e)) (hinfo : (Tryz.prog.info? e).map (fun i => (i.zero, i.size, i.bytes)) = some (some (.agg #[.int .i64 0, .string ⟨#[]⟩, .int .i64 0, .int .u64 0, .int .i64 0]), 5, 48))
    (ho : o.op = .call { callee := .builtin .append, args := #[s, x], argTypes := #[ty, ty] }) (B : Nat) (v : Value) (ts : List Tok) (t : Tok) (g c : Nat)
    (hs : a.eval s = v) (hr : Tr w B e v ts) (hx : a.eval x = .slice (some ⟨g, 0, none⟩) 1 c) (hc : ∀ (j : Nat) (u : Value), (tokC t)[j]? = some u → w.cell? ⟨g, j, none⟩ = some u)
    (hb : ((ts.length + 1) + (ts.length + 1) / 4 + 192) * 48 ≤ 281474976710656) (hB : B ≤ w.heap.size)
    (h : ∀ v' w', Tr w' B e v' (ts ++ [t]) → Fr (fun k => v.ownBlock = some k) w w' → wpList Tryz.prog ops Q rest (a.put o.dst v') w') : wpList Tryz.prog ops Q (o :: rest) a w := by
  cases hi : Tryz.prog.info? e with
  | none => rw [hi] at hinfo; cases hinfo
  | some i =>
    rw [hi] at hinfo
    simp only [Option.map_some, Option.some.injEq, Prod.mk.injEq] at hinfo
    refine wpList_append_own_wide w hgd s x ty ho B e i _ 5 48 hty hi hinfo.1 hinfo.2.1 hinfo.2.2 rfl (by decide) v ts.length (ts.flatMap tokC) hs hr ⟨g, 0, none⟩ 1 c (tokC t) hx rfl ?_ (one_all t) (by simp only [maxLen]; omega) hb hB ?_
    · intro j u hu
      have := hc j u hu
      cases j <;> simpa [Addr.add] using this
    · intro v' w' h2 h3 _
      refine h v' w' ?_ ((Fr.grown h3).mono (fun k _ hk => hk.symm))
      show w'.ownsRow B e 5 v' (ts ++ [t]).length ((ts ++ [t]).flatMap tokC)
      rw [List.length_append, List.flatMap_append]
      simpa using h2
end Go.Proofs.YtncachlopnpcjaaGreatDoor

namespace Go.Proofs.YtncachlopnpcjaaGreatDoor
open Go.RowKit Lx
set_option linter.unusedSimpArgs false
set_option linter.unusedVariables false

theorem lexU_stop (f p : Nat) (acc : List Tok) (hf : 0 < f) : lexU wordsL valS f p acc [] = (acc, 0, 0) := by
  obtain ⟨f, rfl⟩ : ∃ g, f = g + 1 := ⟨f - 1, by omega⟩
  simp [lexU]
theorem lexU_step (f p : Nat) (acc : List Tok) (u : By) (k n : Nat) (t b e : Int) (hf : u.length < f) (hu : u ≠ []) (hk : kindLen wordsL u = (k, n)) (hv : valS k (u.take n) = (t, b, e)) (R : List Tok × Nat × Int) (h : lexU wordsL valS f p acc u = R) :
    (n = 0 ∧ R = ([], p, 10)) ∨ (n ≠ 0 ∧ e ≠ 0 ∧ R = ([], p, e)) ∨ (n ≠ 0 ∧ e = 0 ∧ acc.length = 1024 ∧ R = ([], p, 3)) ∨
    (n ≠ 0 ∧ e = 0 ∧ acc.length ≠ 1024 ∧ ∃ f', u.length ≤ f' ∧ lexU wordsL valS f' (p + n + gap (u.drop n)) (acc ++ [⟨k, u.take n, t, b, p⟩]) ((u.drop n).drop (gap (u.drop n))) = R) := by
  obtain ⟨f, rfl⟩ : ∃ g, f = g + 1 := ⟨f - 1, by omega⟩
  unfold lexU at h
  simp only [hk, hv, if_neg hu] at h
  split at h
  · exact Or.inl ⟨by assumption, h.symm⟩
  · split at h
    · exact Or.inr (Or.inl ⟨by assumption, by assumption, h.symm⟩)
    · rename_i he
      have he' : e = 0 := by simpa using he
      split at h
      · exact Or.inr (Or.inr (Or.inl ⟨by assumption, he', by assumption, h.symm⟩))
      · exact Or.inr (Or.inr (Or.inr ⟨by assumption, he', by assumption, f, by omega, h⟩))
theorem Fr.own {w w' w'' : World} {v : Value} (h : Fr (fun _ => False) w w') (g : Fr (fun k => v.ownBlock = some k) w' w'') (hv : ∀ k, v.ownBlock = some k → w.heap.size ≤ k) : Fr (fun _ => False) w w'' :=
  h.over g (fun k hk => hv k hk)
theorem Tr.low {w : World} {B : Nat} {e : TypeId} {v : Value} {ts : List Tok} (h : Tr w B e v ts) : ∀ k, v.ownBlock = some k → B ≤ k := fun k hk => (World.ownsRow.lt h k hk).1
theorem Tr.high {w : World} {B : Nat} {e : TypeId} {v : Value} {ts : List Tok} (h : Tr w B e v ts) : ∀ k, v.ownBlock = some k → k < w.heap.size := fun k hk => (World.ownsRow.lt h k hk).2
theorem Tr.len {w : World} {B : Nat} {e : TypeId} {v : Value} {ts : List Tok} (h : Tr w B e v ts) : ∃ ao cap, v = .slice ao ts.length cap := by
  obtain ⟨h1, h2⟩ := h
  rcases h2 with ⟨rfl, h0⟩ | ⟨g, cap, cur, rfl, _⟩
  · exact ⟨none, 0, by rw [h0]⟩
  · exact ⟨_, _, rfl⟩

set_option maxRecDepth 20000 in
set_option maxHeartbeats 1000000 in
theorem lex_walk (l : By) (ts : List Tok) (q : Nat) (er : Int) (hl : l.length ≤ 4096) (hR : Hidden (lexU wordsL valS (l.length + 1) (gap l) [] (l.drop (gap l)) = (ts, q, er))) (w : World) (htab : F.Tab w) :
    Calls Tryz.prog 23 #[.string ⟨l.toArray⟩] w fun e w' => ∃ v, e = .returned (.tuple #[v, .int .i64 (q : Int), .int .i64 er]) ∧ Tr w' w.heap.size 90 v ts ∧ Fr (fun _ => False) w w' := by
  have hs := str_len l
  have hgl := gap_le l false
  have kg0 := gapEnd_walk l 0 (gap l) (by omega) (by omega) (by show _ = _; simp)
  go_enter Tryz.func23, Tryz.ntmps23
  go_wp2_with (go_at_call 44; refine (kg0 _).mono ?_; rintro e w ⟨rfl, rfl⟩)
  go_loopg [5, 6] (l.length - gap l + 1) (fun k lv iv wr => ∃ (j f : Nat) (acc : List Tok), iv = .int .i64 (j : Int) ∧ j ≤ l.length ∧ Tr wr w.heap.size 90 lv acc ∧ acc.length ≤ 1024 ∧ l.length - j < f ∧ lexU wordsL valS f j acc (l.drop j) = (ts, q, er) ∧ F.Tab wr ∧ Fr (fun _ => False) w wr ∧ k = l.length - j + 1)
  case atStart => exact ⟨gap l, l.length + 1, [], rfl, hgl, Tr.nil _ _ _, by simp, by omega, hR, htab, Fr.refl _ _, rfl⟩
  case round =>
    obtain ⟨j, f, acc, rfl, hj, hrow, hacc, hf, hlex, htb, hfr, hgk⟩ := hrel
    have hgkH : Hidden (gk = l.length - j + 1) := hgk
    have hlexH : Hidden (lexU wordsL valS f j acc (l.drop j) = (ts, q, er)) := hlex
    have haccH : Hidden (acc.length ≤ 1024) := hacc
    clear hgk hlex hR hgl hacc
    obtain ⟨ao, cap, rfl⟩ := hrow.len
    by_cases hjl : j < l.length
    · obtain ⟨k, n, hk⟩ : ∃ k n, kindLen wordsL (l.drop j) = (k, n) := ⟨_, _, rfl⟩
      obtain ⟨t, b, e, hv⟩ : ∃ t b e, valS k ((l.drop j).take n) = (t, b, e) := ⟨_, _, _, rfl⟩
      have hst := lexU_step f j acc (l.drop j) k n t b e (by rw [List.length_drop]; exact hf) (by intro h; have := congrArg List.length h; rw [List.length_drop] at this; simp at this; omega) hk hv _ hlexH
      have kt := tokenAt_any l j k n hjl (by omega) hk wr htb
      have hle := kind_le wordsL (l.drop j)
      rw [hk, List.length_drop] at hle
      rw [hv] at kt
      rcases hst with ⟨h0, hr⟩ | ⟨h0, he, hr⟩ | ⟨h0, he, ha, hr⟩ | ⟨h0, he, ha, f', hf', hr⟩
      · cases hr
        go_wp2_with (go_at_call 45; refine kt.mono ?_; rintro e1 W1 ⟨hr1, hr2, f1⟩; obtain rfl := hr1 h0; clear hr1 hr2)
        go_ret3
        exact ⟨.slice none 0 0, rfl, Tr.nil _ _ _, (hfr.same f1).same (Fr.alloc _ _ _)⟩
      · cases hr
        have he1 : (er == 0) = false := by simpa using he
        have he2 : (er != 0) = true := by simpa using he
        clear he
        go_wp2_with (go_at_call 45; refine kt.mono ?_; rintro e1 W1 ⟨hr1, hr2, f1⟩; obtain rfl := hr2 h0; clear hr1 hr2)
        go_ret3
        exact ⟨.slice none 0 0, rfl, Tr.nil _ _ _, (hfr.same f1).same (Fr.alloc _ _ _)⟩
      · cases hr
        subst he
        have ha1 : ((acc.length : Int) == 1024) = true := by simp; omega
        have haH : Hidden (acc.length = 1024) := ha
        clear ha
        go_wp2_with (go_at_call 45; refine kt.mono ?_; rintro e1 W1 ⟨hr1, hr2, f1⟩; obtain rfl := hr2 h0; clear hr1 hr2)
        go_ret3
        exact ⟨.slice none 0 0, rfl, Tr.nil _ _ _, (hfr.same f1).same (Fr.alloc _ _ _)⟩
      · subst he
        have ha1 : ((acc.length : Int) == 1024) = false := by rw [beq_eq_false_iff_ne]; omega
        have haH : Hidden (acc.length ≠ 1024) := ha
        have hrH : Hidden (lexU wordsL valS f' (j + n + gap ((l.drop j).drop n)) (acc ++ [⟨k, (l.drop j).take n, t, b, j⟩]) (((l.drop j).drop n).drop (gap ((l.drop j).drop n))) = (ts, q, er)) := hr
        have hfH : Hidden (l.length - j ≤ f') := by rw [List.length_drop] at hf'; exact hf'
        clear ha hr hf'
        obtain ⟨x, hx⟩ : ∃ x, (l.drop j).take n = x := ⟨_, rfl⟩
        have hxl : Hidden (x.length = n) := by show _ = _; rw [← hx, List.length_take, List.length_drop]; simp only at hle; omega
        have hxs := str_len x
        have hxn : ((x.length : Nat) : Int) = (n : Int) := by rw [show x.length = n from hxl]
        rw [hx] at kt hv
        obtain ⟨N, hN⟩ : ∃ N, j + n + gap (l.drop (j + n)) = N := ⟨_, rfl⟩
        have kg := gapEnd_walk l (j + n) N (by simp only at hle; omega) (by omega) hN
        go_wp2_with (first
          | (go_at_call 45; refine kt.mono ?_; rintro e1 W1 ⟨hr1, hr2, f1⟩; obtain rfl := hr2 h0; clear hr1 hr2)
          | (go_at_call 44; refine (kg _).mono ?_; rintro e w' ⟨rfl, rfl⟩)
          | (at_builtin
             refine wpList_tok rfl _ _ 60 90 Tryz.underlying60 info_tok3 rfl w.heap.size (.slice ao acc.length cap) acc ⟨k, x, t, b, j⟩ (W1.heap.size + 1) 1 rfl ?c0 rfl ?c1 ?c2 ?c3 ?_
             case c0 => exact (hrow.keepN f1).keepN ((Fr.alloc _ _ _).same (Fr.alloc _ _ _))
             case c1 => exact fun i u hu => (cell_of_row _ _ i _ _ _ (heap_alloc2_new _ _ _)).trans (tok_arr ⟨k, x, t, b, j⟩ i u hu)
             case c2 => have : acc.length ≤ 1024 := haccH; omega
             case c3 => have := hfr.size; have := f1.size; simp; omega
             intro v2 W2 hrow2 f2
             have hb2 : Hidden (W2.heap[W1.heap.size]? = some (.cells #[.int .i64 (k : Int), .string ⟨x.toArray⟩, .int .i64 t, .int .u64 b, .int .i64 (j : Int)] 90 (0, 0))) := f2.heap (heap_alloc2_old _ _ _) (fun h => by have := hrow.high _ h; have := f1.size; omega)
             have hc1 : W2.cell? ⟨W1.heap.size, 1, none⟩ = some (.string ⟨x.toArray⟩) := cell_of_row _ _ 1 _ _ _ hb2))
        have hNle : N ≤ l.length := by
          have h1 := gap_le (l.drop (j + n)) false
          rw [List.length_drop] at h1
          have h2 : gap (l.drop (j + n)) = gapM false (l.drop (j + n)) := rfl
          omega
        have hjN : j + n ≤ N := by omega
        go_roundg (l.length - N + 1)
        case measure =>
          have : gk = l.length - j + 1 := hgkH
          omega
        case rel =>
          have e1 : (l.drop j).drop n = l.drop (j + n) := List.drop_drop
          have hrr : lexU wordsL valS f' (j + n + gap ((l.drop j).drop n)) (acc ++ [⟨k, (l.drop j).take n, t, b, j⟩]) (((l.drop j).drop n).drop (gap ((l.drop j).drop n))) = (ts, q, er) := hrH
          rw [e1, List.drop_drop, hN, hx] at hrr
          have h3 : l.length - j ≤ f' := hfH
          have h4 : acc.length ≤ 1024 := haccH
          have h5 : acc.length ≠ 1024 := haH
          have hf3 : Fr (fun _ => False) w _ := ((hfr.same f1).same ((Fr.alloc _ _ _).same (Fr.alloc _ _ _))).own f2 hrow.low
          exact ⟨N, f', acc ++ [⟨k, x, t, b, j⟩], rfl, hNle, hrow2, by rw [List.length_append]; simp; omega, by omega, hrr, tab_fr htab hf3, hf3, rfl⟩
    · obtain rfl : j = l.length := by omega
      have hz := hlexH
      rw [Hidden, List.drop_length, lexU_stop f l.length acc (by omega)] at hz
      cases hz
      go_wp2
      go_ret3
      exact ⟨_, rfl, hrow, hfr⟩
theorem lex_long (l : By) (hl : 4096 < l.length) (hl2 : l.length ≤ 9223372036854775807) (w : World) :
    Calls Tryz.prog 23 #[.string ⟨l.toArray⟩] w fun e w' => e = .returned (.tuple #[.slice none 0 0, .int .i64 0, .int .i64 3]) ∧ w' = w := by
  have hs := str_len l
  go_enter Tryz.func23, Tryz.ntmps23
  go_wp2
  go_ret3
  exact ⟨rfl, rfl⟩
/-- Lex. -/
theorem lex_any (l : By) (ts : List Tok) (q : Nat) (er : Int) (hl : l.length ≤ 9223372036854775807) (hR : lexS wordsL valS l = (ts, q, er)) (w : World) (htab : F.Tab w) :
    Calls Tryz.prog 23 #[.string ⟨l.toArray⟩] w fun e w' => ∃ v, e = .returned (.tuple #[v, .int .i64 (q : Int), .int .i64 er]) ∧ Tr w' w.heap.size 90 v ts ∧ Fr (fun _ => False) w w' := by
  unfold lexS at hR
  split at hR
  · rename_i h
    cases hR
    exact (lex_long l h hl w).mono fun e w' ⟨h1, h2⟩ => ⟨_, h1, Tr.nil _ _ _, by rw [h2]; exact Fr.refl _ _⟩
  · exact lex_walk l ts q er (by omega) hR w htab
end Go.Proofs.YtncachlopnpcjaaGreatDoor

namespace Go.Proofs.YtncachlopnpcjaaGreatDoor
open Go.RowKit Lx
set_option linter.unusedSimpArgs false
set_option linter.unusedVariables false

def live1 : By := [108, 101, 116, 32, 120, 60, 61, 49, 46, 53, 59, 32, 47, 47, 32, 103, 111]
def live2 : By := [97, 32, 38, 32, 98]
theorem live1_lex : lexS wordsL valS live1 = ([⟨2, [108, 101, 116], 0, 0, 0⟩, ⟨1, [120], 0, 0, 4⟩, ⟨5, [60, 61], 0, 0, 5⟩, ⟨4, [49, 46, 53], 2, 4609434218613702656, 7⟩, ⟨5, [59], 0, 0, 10⟩], 0, 0) := by
  decide +kernel
theorem live2_lex : lexS wordsL valS live2 = ([], 2, 10) := by decide +kernel
theorem Tr.out {w : World} {B : Nat} {e : TypeId} {v : Value} {ts : List Tok} (h : Tr w B e v ts) (h0 : ts ≠ []) : ∃ g cap, v = .slice (some ⟨g, 0, none⟩) ts.length cap ∧ ts.length ≤ cap ∧ cap ≤ maxLen ∧ B ≤ g ∧ g < w.heap.size ∧
    ∀ (i : Nat) (t : Tok), ts[i]? = some t → ∀ (j : Nat) (x : Value), (tokC t)[j]? = some x → w.cell? ⟨g, i * 5 + j, none⟩ = some x := by
  have hlt := World.ownsRow.lt h
  obtain ⟨ao, cap, hv, h1, h2, h3⟩ := h.tk
  obtain ⟨_, h4⟩ := h
  rcases h4 with ⟨_, hz⟩ | ⟨g, cap', cur, hv', hb, _⟩
  · exact absurd (List.eq_nil_of_length_eq_zero hz) h0
  · rw [hv] at hv' hlt
    simp only [Value.slice.injEq, true_and] at hv'
    obtain ⟨rfl, rfl⟩ := hv'
    rcases h3 with h3 | ⟨b, off, hbo, hc⟩
    · exact absurd h3 h0
    · simp only [Option.some.injEq, Addr.mk.injEq, and_true] at hbo
      obtain ⟨rfl, rfl⟩ := hbo
      exact ⟨g, cap, hv, h1, h2, hb, (hlt g rfl).2, fun i t hi j x hj => by have := hc i t hi j x hj; rw [Nat.zero_add] at this; exact this⟩

end Go.Proofs.YtncachlopnpcjaaGreatDoor

namespace Go.Proofs.YtncachlopnpcjaaGreatDoor
open Go.RowKit Lx
set_option linter.unusedSimpArgs false
set_option linter.unusedVariables false

/-- Blocks that a builder's call may change. -/
def BS (B b : Nat) (w : World) (k : Nat) : Prop := k = b ∨ (B ≤ k ∧ ∃ cur fr, w.heap[k]? = some (.cells cur 5 fr))
abbrev Bat (B b : Nat) (p : Value) (bs : By) (w : World) : Prop := Lib.BuilderAt 81 5 B b p (Lib.byteCells bs) w
abbrev Bld (B b : Nat) (bs : By) (w : World) : Prop := Lib.IsBuilder 81 5 B b (Lib.byteCells bs) w
theorem info_bld : (Tryz.prog.info? 81).map (·.size) = some 2 := by kernel_rfl
theorem info_byte : (Tryz.prog.info? 5).map (fun i => (i.zero, i.size, i.bytes)) = some (some (.int .u8 0), 1, 1) := by kernel_rfl
theorem lies_bld : liesAt Tryz.prog Tryz.prog.depth 81 (2 / Tryz.prog.cellsOf 81) 0 81 1 = true := by kernel_rfl

set_option maxHeartbeats 1000000 in
set_option maxRecDepth 100000 in
theorem cc_used (b : Nat) (w : World) (h0 : w.cell? ⟨b, 0, none⟩ = some (.pointer (some ⟨b, 0, none⟩))) :
    Calls Tryz.prog 74 #[.pointer (some ⟨b, 0, none⟩)] w fun e w' => e = .returned (.tuple #[]) ∧ w' = w := by
  obtain ⟨i, hi, _⟩ := Option.map_eq_some_iff.1 info_bld
  go_enter Tryz.func74, Tryz.ntmps74
  go_wp2
  rw [Lib.run_neq_ptr_same w _ Tryz.underlying78 hi]
  go_wp2
  go_end0
  exact ⟨rfl, rfl⟩
set_option maxHeartbeats 1000000 in
set_option maxRecDepth 100000 in
theorem cc_fresh (b : Nat) (w : World) (h0 : w.cell? ⟨b, 0, none⟩ = some (.pointer none)) (hsh : w.shape? b = some (81, 2)) (hfz : w.frozen? ⟨b, 0, none⟩ = false) :
    Calls Tryz.prog 74 #[.pointer (some ⟨b, 0, none⟩)] w fun e w' => e = .returned (.tuple #[]) ∧ w' = w.setCell ⟨b, 0, none⟩ (.pointer (some ⟨b, 0, none⟩)) := by
  obtain ⟨i, hi, his⟩ := Option.map_eq_some_iff.1 info_bld
  go_enter Tryz.func74, Tryz.ntmps74
  go_wp2
  rw [Lib.run_to_unsafe w ⟨b, 0, none⟩ Tryz.underlying78 Tryz.underlying141 hi (by rw [his]; decide) hsh (Nat.zero_lt_succ 1)]
  simp only [Result.andThen]
  rw [Oper.upon_value]
  go_wp2
  rw [run_callFunc_extern Tryz.func96 (by kernel_rfl) (by kernel_rfl) (by kernel_rfl) (e := Extern.AbiNoEscape.same) (by kernel_rfl)]
  rw [Lib.run_noEscape]
  simp only [Result.andThen]
  rw [Oper.upon_value]
  go_wp2
  rw [Lib.run_from_unsafe w ⟨b, 0, none⟩ Tryz.underlying141 Tryz.underlying78 hi hsh lies_bld]
  simp only [Result.andThen]
  rw [Oper.upon_value]
  go_wp2
  go_end0
  exact ⟨rfl, rfl⟩
theorem cc_any (B b : Nat) (bs : By) (w : World) (h : Bld B b bs w) :
    Calls Tryz.prog 74 #[.pointer (some ⟨b, 0, none⟩)] w fun e w' => e = .returned (.tuple #[]) ∧ Bat B b (.pointer (some ⟨b, 0, none⟩)) bs w' ∧ Fr (fun k => k = b) w w' := by
  rcases h with h | h
  · exact (cc_fresh b w h.cell0 h.shape h.frozen0).mono fun e w' ⟨h1, h2⟩ => ⟨h1, by rw [h2]; exact h.used _, by rw [h2]; exact Fr.setCell w ⟨b, 0, none⟩ _⟩
  · exact (cc_used b w h.cell0).mono fun e w' ⟨h1, h2⟩ => ⟨h1, by rw [h2]; exact h, by rw [h2]; exact Fr.refl _ _⟩

theorem bs_row {w : World} {B : Nat} {v : Value} {n : Nat} {xs : List Value} (h : w.ownsRow B 5 1 v n xs) (k : Nat) (hk : v.ownBlock = some k) : B ≤ k ∧ ∃ cur fr, w.heap[k]? = some (.cells cur 5 fr) := by
  obtain ⟨_, h2⟩ := h
  rcases h2 with ⟨rfl, _⟩ | ⟨g, cap, cur, rfl, hb, hg, _⟩
  · simp [Value.ownBlock] at hk
  · have : g = k := by simpa [Value.ownBlock] using hk
    subst this
    exact ⟨hb, cur, _, hg⟩

set_option maxHeartbeats 1000000 in
set_option maxRecDepth 100000 in
theorem wbyte_any (B b : Nat) (bs : By) (c : UInt8) (w : World) (h : Bld B b bs w) (hlen : bs.length + 1 ≤ 140737488355328) (hB0 : B ≤ w.heap.size) :
    Calls Tryz.prog 53 #[.pointer (some ⟨b, 0, none⟩), .int .u8 (c.toNat : Int)] w fun e w' => e = .returned .nilIface ∧ Bat B b (.pointer (some ⟨b, 0, none⟩)) (bs ++ [c]) w' ∧ Fr (BS B b w) w w' := by
  obtain ⟨i0, hi, hz⟩ := Option.map_eq_some_iff.1 info_byte
  simp only [Prod.mk.injEq] at hz
  have hbl : (Lib.byteCells bs).length = bs.length := Lib.byteCells_length bs
  have kc := cc_any B b bs w h
  go_enter Tryz.func53, Tryz.ntmps53
  go_wp2_with fail
  go_at_call 74
  refine kc.mono ?_
  rintro e w1 ⟨rfl, h1, f1⟩
  obtain ⟨hB, v, hbk, hown, hne⟩ := h1
  have c0 : w1.cell? ⟨b, 0, none⟩ = some (.pointer (some ⟨b, 0, none⟩)) := cell_of_row _ _ 0 _ _ _ hbk
  have c1 : w1.cell? ⟨b, 1, none⟩ = some v := cell_of_row _ _ 1 _ _ _ hbk
  have hsz := f1.size
  have hlt := lt_of_heap hbk
  go_wp2_with (at_builtin; refine wpList_append_own _ rfl _ _ 79 rfl B 5 i0 (.int .u8 0) 1 1 Tryz.underlying79 hi hz.1 hz.2.1 hz.2.2 rfl (by decide) _ _ _ rfl (hown.alloc _) ⟨w1.heap.size, 0, none⟩ 1 1 [.int .u8 (c.toNat : Int)] rfl rfl ?c1 ?c2 ?c3 ?c4 ?c5 ?_)
  case c1 =>
    intro j u hj
    match j, hj with
    | 0, hj => simp at hj; subst hj; simp [Addr.add]
  case c2 => intro u hu; simp at hu; subst hu; rfl
  case c3 => unfold maxLen; omega
  case c4 => omega
  case c5 => simp; omega
  intro v' w2 hown' hgrow _
  have hb2 : w2.heap[b]? = some (.cells #[.pointer (some ⟨b, 0, none⟩), v] 81 (0, 0)) := by
    rw [hgrow.block b (by simp; omega) (fun e => hne e.symm), alloc_old w1 _ b hlt]
    exact hbk
  have d0 : w2.cell? ⟨b, 0, none⟩ = some (.pointer (some ⟨b, 0, none⟩)) := cell_of_row _ _ 0 _ _ _ hb2
  have d1 : w2.cell? ⟨b, 1, none⟩ = some v := cell_of_row _ _ 1 _ _ _ hb2
  have d2 : w2.frozen? ⟨b, 1, none⟩ = false := frozen_row hb2 1
  obtain ⟨g, cap, rfl⟩ : ∃ g cap, v' = .slice (some ⟨g, 0, none⟩) (bs.length + 1) cap := by
    rcases hown'.2 with ⟨_, h0⟩ | ⟨g, cap, cur, hv, _⟩
    · omega
    · exact ⟨g, cap, hv⟩
  go_wp2
  go_ret
  refine ⟨rfl, ?_, ?_⟩
  · refine Lib.BuilderAt.put hB hb2 (bs' := Lib.byteCells (bs ++ [c])) ?_ (by decide)
    have e : Lib.byteCells (bs ++ [c]) = Lib.byteCells bs ++ [.int .u8 (c.toNat : Int)] := by simp [Lib.byteCells]
    rw [e, List.length_append, hbl]
    simpa using hown'
  · have g1 : Fr (BS B b w) w w1 := f1.mono (fun k _ hk => Or.inl hk)
    refine ((g1.same (Fr.alloc _ _ _)).trans (Fr.grown hgrow) ?_).trans (Fr.setCell _ _ _) (fun k _ hk => Or.inl hk)
    intro k hk hrow
    obtain ⟨h1, cur, fr, h2⟩ := bs_row hown k hrow.symm
    by_cases hkb : k = b
    · exact Or.inl hkb
    · exact Or.inr ⟨h1, cur, fr, by rw [← f1.block k hk hkb]; exact h2⟩
set_option maxHeartbeats 1000000 in
set_option maxRecDepth 100000 in
theorem wstr_any (B b : Nat) (bs s : By) (w : World) (h : Bld B b bs w) (hlen : bs.length + s.length ≤ 140737488355328) (hB0 : B ≤ w.heap.size) :
    Calls Tryz.prog 55 #[.pointer (some ⟨b, 0, none⟩), .string ⟨s.toArray⟩] w fun e w' => e = .returned (.tuple #[.int .i64 (s.length : Int), .nilIface]) ∧ Bat B b (.pointer (some ⟨b, 0, none⟩)) (bs ++ s) w' ∧ Fr (BS B b w) w w' := by
  obtain ⟨i0, hi, hz⟩ := Option.map_eq_some_iff.1 info_byte
  simp only [Prod.mk.injEq] at hz
  have hbl : Hidden ((Lib.byteCells bs).length = bs.length) := Lib.byteCells_length bs
  have hs := str_len s
  have kc := cc_any B b bs w h
  go_enter Tryz.func55, Tryz.ntmps55
  go_wp2_with fail
  go_at_call 74
  refine kc.mono ?_
  rintro e w1 ⟨rfl, h1, f1⟩
  obtain ⟨hB, v, hbk, hown, hne⟩ := h1
  have c0 : w1.cell? ⟨b, 0, none⟩ = some (.pointer (some ⟨b, 0, none⟩)) := cell_of_row _ _ 0 _ _ _ hbk
  have c1 : w1.cell? ⟨b, 1, none⟩ = some v := cell_of_row _ _ 1 _ _ _ hbk
  have hsz := f1.size
  have hlt := lt_of_heap hbk
  have hs2 : (⟨s.toArray⟩ : ByteArray).size = s.length := by simp [ByteArray.size]
  have hb0 : (Lib.byteCells bs).length = bs.length := hbl
  go_wp2_with (at_builtin; refine Lib.wpList_append_own_string _ rfl _ _ 79 9 rfl B 5 i0 Tryz.underlying79 Tryz.underlying9 hi hz.1 hz.2.1 hz.2.2 _ _ _ rfl hown ⟨s.toArray⟩ rfl ?c3 ?c4 ?c5 ?_)
  case c3 => unfold maxLen; omega
  case c4 => omega
  case c5 => omega
  intro v' w2 hown' hgrow _
  have hb2 : w2.heap[b]? = some (.cells #[.pointer (some ⟨b, 0, none⟩), v] 81 (0, 0)) := by
    rw [hgrow.block b hlt (fun e => hne e.symm)]
    exact hbk
  have d0 : w2.cell? ⟨b, 0, none⟩ = some (.pointer (some ⟨b, 0, none⟩)) := cell_of_row _ _ 0 _ _ _ hb2
  have d1 : w2.cell? ⟨b, 1, none⟩ = some v := cell_of_row _ _ 1 _ _ _ hb2
  have d2 : w2.frozen? ⟨b, 1, none⟩ = false := frozen_row hb2 1
  obtain ⟨ao, n', cap, rfl⟩ : ∃ ao n' cap, v' = .slice ao n' cap := by
    rcases hown'.2 with ⟨hv, _⟩ | ⟨g, cap, cur, hv, _⟩
    · exact ⟨_, _, _, hv⟩
    · exact ⟨_, _, _, hv⟩
  go_wp2
  go_ret2
  refine ⟨rfl, ?_, ?_⟩
  · refine Lib.BuilderAt.put hB hb2 (bs' := Lib.byteCells (bs ++ s)) ?_ (by decide)
    have e : Lib.byteCells (bs ++ s) = Lib.byteCells bs ++ Lib.strCells ⟨s.toArray⟩ := by simp [Lib.byteCells, Lib.strCells]
    rw [e, List.length_append, hb0]
    simpa [Lib.strCells, hs2] using hown'
  · have g1 : Fr (BS B b w) w w1 := f1.mono (fun k _ hk => Or.inl hk)
    refine (g1.trans (Fr.grown hgrow) ?_).trans (Fr.setCell _ _ _) (fun k _ hk => Or.inl hk)
    intro k hk hrow
    obtain ⟨h1, cur, fr, h2⟩ := bs_row hown k hrow.symm
    by_cases hkb : k = b
    · exact Or.inl hkb
    · exact Or.inr ⟨h1, cur, fr, by rw [← f1.block k hk hkb]; exact h2⟩
end Go.Proofs.YtncachlopnpcjaaGreatDoor

namespace Go.Proofs.YtncachlopnpcjaaGreatDoor
open Go.RowKit Lx
set_option linter.unusedSimpArgs false
set_option linter.unusedVariables false

def tailJ (l : List Tok) : By := l.flatMap fun t => 32 :: t.x
theorem joinS_cons (t : Tok) (ts : List Tok) : joinS (t :: ts) = t.x ++ tailJ ts := by
  induction ts generalizing t with
  | nil => simp [joinS, tailJ]
  | cons t' ts ih =>
    show t.x ++ 32 :: joinS (t' :: ts) = _
    rw [ih]
    simp [tailJ]
theorem fr_below {S : Nat → Prop} {B : Nat} {w w' : World} (h : Below B w w') (hS : ∀ k, B ≤ k → S k) : Fr S w w' :=
  ⟨h.os, h.output, h.size, fun k hk hn => h.block k (Nat.lt_of_not_le (fun hb => hn (hS k hb)))⟩
theorem Bat.low {B b : Nat} {p : Value} {bs : By} {w : World} (h : Bat B b p bs w) : B ≤ b := h.1
theorem Bld.lt {B b : Nat} {bs : By} {w : World} (h : Bld B b bs w) : b < w.heap.size := by
  rcases h with ⟨_, v, hb, _⟩ | ⟨_, v, hb, _⟩
  · exact lt_of_heap hb
  · exact lt_of_heap hb
theorem Bld.low {B b : Nat} {bs : By} {w : World} (h : Bld B b bs w) : B ≤ b := by
  rcases h with h | h
  · exact h.1
  · exact h.1
theorem Bld.alloc {B b : Nat} {bs : By} {w : World} (h : Bld B b bs w) (o : Obj) : Bld B b bs (w.alloc o) := by
  rcases h with ⟨h1, v, hb, ho, hn⟩ | ⟨h1, v, hb, ho, hn⟩
  · exact Or.inl ⟨h1, v, (alloc_old _ _ _ (lt_of_heap hb)).trans hb, ho.alloc o, hn⟩
  · exact Or.inr ⟨h1, v, (alloc_old _ _ _ (lt_of_heap hb)).trans hb, ho.alloc o, hn⟩
/-- Behind a builder's call: what lay there ahead of it. -/
theorem bs_over {B b : Nat} {w w1 w2 : World} (h : Fr (fun _ => False) w w1) (g : Fr (BS B b w1) w1 w2) (hB : w.heap.size ≤ B) (hb : B ≤ b) : Fr (fun _ => False) w w2 :=
  h.over g (fun k hk => by rcases hk with rfl | ⟨h1, _⟩ <;> omega)

end Go.Proofs.YtncachlopnpcjaaGreatDoor
