/- Plain: the tokens of a text; blanks put between them; tokens joined. -/
import Derived.KernelRfl
namespace Go.Proofs.YtfkccanjdlajlabGreatDoor
set_option linter.unusedSimpArgs false
set_option linter.unusedVariables false
namespace Lx

abbrev By := List UInt8

def dgt (c : UInt8) : Bool := decide (48 ≤ c.toNat) && decide (c.toNat ≤ 57)
def ltr (c : UInt8) : Bool := (decide (97 ≤ c.toNat) && decide (c.toNat ≤ 122)) || (decide (65 ≤ c.toNat) && decide (c.toNat ≤ 90)) || decide (c.toNat = 95)
def nmB (c : UInt8) : Bool := dgt c || ltr c
def hxB (c : UInt8) : Bool := dgt c || (decide (97 ≤ c.toNat) && decide (c.toNat ≤ 102)) || decide (c.toNat = 112) || decide (c.toNat = 46) || decide (c.toNat = 43) || decide (c.toNat = 45)
def blB (c : UInt8) : Bool := c == 32 || c == 9 || c == 10 || c == 13
def run (p : UInt8 → Bool) (l : By) : Nat := (l.takeWhile p).length

def gapM : Bool → By → Nat
  | _, [] => 0
  | true, c :: r => if c = 10 then 1 + gapM false r else 1 + gapM true r
  | false, c :: r => if blB c = true then 1 + gapM false r else if c = 47 ∧ r[0]? = some 47 then 1 + gapM true r else 0
abbrev gap (l : By) : Nat := gapM false l

def two (a b : UInt8) : Bool := (b == 61 && (a == 60 || a == 62 || a == 61 || a == 33)) || (a == 38 && b == 38) || (a == 124 && b == 124)
def one (a : UInt8) : Bool := a == 40 || a == 41 || a == 123 || a == 125 || a == 44 || a == 59 || a == 58 || a == 46 || a == 61 || a == 43 || a == 45 || a == 42 || a == 47 || a == 37 || a == 60 || a == 62 || a == 33
def mkLen : By → Nat
  | [] => 0
  | [a] => if one a = true then 1 else 0
  | a :: b :: _ => if two a b = true then 2 else if one a = true then 1 else 0
def numLen (l : By) : Nat × Nat :=
  if l.take 2 = [48, 120] then (4, 2 + run hxB (l.drop 2))
  else if l[run dgt l]? = some 46 ∧ run dgt (l.drop (run dgt l + 1)) ≠ 0 then (4, run dgt l + 1 + run dgt (l.drop (run dgt l + 1)))
  else (3, run dgt l)
variable (words : List By)
def kindLen : By → Nat × Nat
  | [] => (5, 0)
  | c :: r => if dgt c = true then numLen (c :: r) else if ltr c = true then (if (c :: r).take (run nmB (c :: r)) ∈ words then 2 else 1, run nmB (c :: r)) else (5, mkLen (c :: r))

structure Tok where
  k : Nat
  x : By
  ty : Int
  b : Int
  p : Nat
  deriving DecidableEq, Inhabited

variable (V : Nat → By → Int × Int × Int)
/-- From a place at which no gap stands. -/
def lexU : Nat → Nat → List Tok → By → List Tok × Nat × Int
  | 0, _, _, _ => ([], 0, 0)
  | f + 1, p, acc, u =>
    if u = [] then (acc, 0, 0) else
    if (kindLen words u).2 = 0 then ([], p, 10) else
    if (V (kindLen words u).1 (u.take (kindLen words u).2)).2.2 ≠ 0 then ([], p, (V (kindLen words u).1 (u.take (kindLen words u).2)).2.2) else
    if acc.length = 1024 then ([], p, 3) else
    lexU f (p + (kindLen words u).2 + gap (u.drop (kindLen words u).2))
      (acc ++ [⟨(kindLen words u).1, u.take (kindLen words u).2, (V (kindLen words u).1 (u.take (kindLen words u).2)).1, (V (kindLen words u).1 (u.take (kindLen words u).2)).2.1, p⟩])
      ((u.drop (kindLen words u).2).drop (gap (u.drop (kindLen words u).2)))
def lexS (s : By) : List Tok × Nat × Int :=
  if 4096 < s.length then ([], 0, 3) else lexU words V (s.length + 1) (gap s) [] (s.drop (gap s))

inductive Toks : Nat → By → List Tok → Prop
  | done (p : Nat) : Toks p [] []
  | more (p : Nat) (x r : By) (k : Nat) (ty b : Int) (ts : List Tok) (hk : kindLen words (x ++ r) = (k, x.length)) (h0 : x ≠ []) (hg : gap (x ++ r) = 0) (hv : V k x = (ty, b, 0))
      (h : Toks (p + x.length + gap r) (r.drop (gap r)) ts) : Toks p (x ++ r) (⟨k, x, ty, b, p⟩ :: ts)

/- gaps -/
theorem gap_le : ∀ (l : By) (m : Bool), gapM m l ≤ l.length := by
  intro l
  induction l with
  | nil => intro m; cases m <;> simp [gapM]
  | cons c r ih =>
    intro m
    have h1 := ih true
    have h2 := ih false
    cases m <;> simp only [gapM, List.length_cons] <;> repeat' split
    all_goals omega
theorem gapM_false (c : UInt8) (r : By) : gapM false (c :: r) = if blB c = true then 1 + gapM false r else if c = 47 ∧ r[0]? = some 47 then 1 + gapM true r else 0 := by rw [gapM]
theorem gapM_true (c : UInt8) (r : By) : gapM true (c :: r) = if c = 10 then 1 + gapM false r else 1 + gapM true r := by rw [gapM]
theorem gap_drop : ∀ (l : By) (m : Bool), gap (l.drop (gapM m l)) = 0 := by
  intro l
  induction l with
  | nil => intro m; cases m <;> simp [gapM]
  | cons c r ih =>
    intro m
    cases m
    · by_cases h1 : blB c = true
      · rw [gapM_false c r, if_pos h1, Nat.add_comm, List.drop_succ_cons]; exact ih false
      · by_cases h2 : c = 47 ∧ r[0]? = some 47
        · rw [gapM_false c r, if_neg h1, if_pos h2, Nat.add_comm, List.drop_succ_cons]; exact ih true
        · rw [gapM_false c r, if_neg h1, if_neg h2, List.drop_zero]
          show gapM false (c :: r) = 0
          rw [gapM_false, if_neg h1, if_neg h2]
    · by_cases h1 : c = 10
      · rw [gapM_true c r, if_pos h1, Nat.add_comm, List.drop_succ_cons]; exact ih false
      · rw [gapM_true c r, if_neg h1, Nat.add_comm, List.drop_succ_cons]; exact ih true
/-- What stands ahead of a token is a gap, whatever stands behind. -/
theorem gap_ahead (z : By) : ∀ (r : By) (m : Bool), gapM m r < r.length → gapM m (r.take (gapM m r) ++ z) = gapM m r + gap z := by
  intro r
  induction r with
  | nil => intro m h; simp at h
  | cons c r ih =>
    intro m h
    cases m
    · unfold gapM at h
      conv => lhs; rw [gapM]
      conv => rhs; rw [gapM]
      split at h
      · rename_i hb
        simp only [if_pos hb]
        rw [Nat.add_comm 1, List.take_succ_cons, List.cons_append]
        conv => lhs; rw [gapM]
        rw [if_pos hb, ih false (by simp only [List.length_cons] at h; omega)]
        omega
      · rename_i hb
        simp only [if_neg hb]
        split at h
        · rename_i hc
          simp only [if_pos hc]
          rw [Nat.add_comm 1, List.take_succ_cons, List.cons_append]
          conv => lhs; rw [gapM]
          have hr : (r.take (gapM true r) ++ z)[0]? = some 47 := by
            cases r with
            | nil => simp at hc
            | cons d r' =>
              have hd : d = 47 := by simpa using hc.2
              have hg : gapM true (d :: r') = 1 + gapM true r' := by
                conv => lhs; rw [gapM]
                rw [if_neg (by rw [hd]; decide)]
              rw [hg, Nat.add_comm 1, List.take_succ_cons]
              simp [hd]
          rw [if_neg hb, if_pos ⟨hc.1, hr⟩, ih true (by simp only [List.length_cons] at h; omega)]
          omega
        · rename_i hc
          simp only [if_neg hc]
          simp
    · unfold gapM at h
      conv => lhs; rw [gapM]
      conv => rhs; rw [gapM]
      split at h
      · rename_i hb
        simp only [if_pos hb]
        rw [Nat.add_comm 1, List.take_succ_cons, List.cons_append]
        conv => lhs; rw [gapM]
        rw [if_pos hb, ih false (by simp only [List.length_cons] at h; omega)]
        omega
      · rename_i hb
        simp only [if_neg hb]
        rw [Nat.add_comm 1, List.take_succ_cons, List.cons_append]
        conv => lhs; rw [gapM]
        rw [if_neg hb, ih true (by simp only [List.length_cons] at h; omega)]
        omega
theorem blank_no {c : UInt8} (h : blB c = true) : nmB c = false ∧ hxB c = false ∧ dgt c = false ∧ c ≠ 47 ∧ c ≠ 46 ∧ c ≠ 120 ∧ c ≠ 61 ∧ c ≠ 38 ∧ c ≠ 124 := by
  simp only [blB, Bool.or_eq_true, beq_iff_eq] at h
  rcases h with ((rfl | rfl) | rfl) | rfl <;> decide
/-- With an end of gaps alone. -/
theorem gap_end (E : By) (hE : ∀ m, gapM m E = E.length) (hb : ∃ c E', E = c :: E' ∧ blB c = true) : ∀ (r : By) (m : Bool),
    gapM m (r ++ E) = if gapM m r = r.length then r.length + E.length else gapM m r := by
  intro r
  induction r with
  | nil => intro m; simp [hE, gapM]
  | cons c r ih =>
    intro m
    have l1 := gap_le r true
    have l2 := gap_le r false
    cases m
    · rw [List.cons_append, gapM_false, gapM_false]
      by_cases h1 : blB c = true
      · rw [if_pos h1, if_pos h1, ih false]
        by_cases e : gapM false r = r.length
        · rw [if_pos e, if_pos (by rw [e, List.length_cons]; omega), List.length_cons]; omega
        · rw [if_neg e, if_neg (by rw [List.length_cons]; omega)]
      · rw [if_neg h1, if_neg h1]
        have e2 : (r ++ E)[0]? = some 47 ↔ r[0]? = some 47 := by
          cases r with
          | nil =>
            obtain ⟨d, E', rfl, hd⟩ := hb
            have := (blank_no hd).2.2.2.1
            simp [this]
          | cons d r' => simp
        by_cases h2 : c = 47 ∧ r[0]? = some 47
        · rw [if_pos h2, if_pos ⟨h2.1, e2.2 h2.2⟩, ih true]
          by_cases e : gapM true r = r.length
          · rw [if_pos e, if_pos (by rw [e, List.length_cons]; omega), List.length_cons]; omega
          · rw [if_neg e, if_neg (by rw [List.length_cons]; omega)]
        · rw [if_neg h2, if_neg (fun h => h2 ⟨h.1, e2.1 h.2⟩), if_neg (by simp)]
    · rw [List.cons_append, gapM_true, gapM_true]
      by_cases h1 : c = 10
      · rw [if_pos h1, if_pos h1, ih false]
        by_cases e : gapM false r = r.length
        · rw [if_pos e, if_pos (by rw [e, List.length_cons]; omega), List.length_cons]; omega
        · rw [if_neg e, if_neg (by rw [List.length_cons]; omega)]
      · rw [if_neg h1, if_neg h1, ih true]
        by_cases e : gapM true r = r.length
        · rw [if_pos e, if_pos (by rw [e, List.length_cons]; omega), List.length_cons]; omega
        · rw [if_neg e, if_neg (by rw [List.length_cons]; omega)]

/- what stands behind a token -/
/-- What is no blank right behind stood there before. -/
def Cut (r r' : By) : Prop := ∀ c, r'[0]? = some c → blB c = false → r[0]? = some c ∧ ∀ d, r'[1]? = some d → blB d = false → r[1]? = some d
theorem run_nil (p : UInt8 → Bool) : run p [] = 0 := rfl
theorem run_cons (p : UInt8 → Bool) (c : UInt8) (r : By) : run p (c :: r) = if p c = true then run p r + 1 else 0 := by
  unfold run
  rw [List.takeWhile_cons]
  split <;> simp
theorem run_le (p : UInt8 → Bool) (l : By) : run p l ≤ l.length := by
  induction l with
  | nil => simp [run]
  | cons c r ih => rw [run_cons]; split <;> simp <;> omega
theorem run_stop (p : UInt8 → Bool) (x r : By) (hx : ∀ c ∈ x, p c = true) (hr : ∀ c, r[0]? = some c → p c = false) : run p (x ++ r) = x.length := by
  induction x with
  | nil =>
    cases r with
    | nil => rfl
    | cons c r' => rw [List.nil_append, run_cons, if_neg (by rw [hr c (by simp)]; simp)]; rfl
  | cons c x ih => rw [List.cons_append, run_cons, if_pos (hx c (by simp)), ih (fun c hc => hx c (by simp [hc]))]; rfl
theorem run_all (p : UInt8 → Bool) (x r : By) (h : run p (x ++ r) = x.length) : (∀ c ∈ x, p c = true) ∧ (∀ c, r[0]? = some c → p c = false) := by
  induction x with
  | nil =>
    refine ⟨by simp, fun c hc => ?_⟩
    cases r with
    | nil => simp at hc
    | cons d r' =>
      have : d = c := by simpa using hc
      subst this
      rw [List.nil_append, run_cons] at h
      by_cases e : p d = true
      · rw [if_pos e] at h; simp at h
      · simpa using e
  | cons c x ih =>
    rw [List.cons_append, run_cons] at h
    by_cases e : p c = true
    · rw [if_pos e] at h
      have := ih (by simpa using h)
      exact ⟨fun d hd => by rcases List.mem_cons.1 hd with rfl | hd; exact e; exact this.1 d hd, this.2⟩
    · rw [if_neg e] at h; simp at h
theorem run_cut (p : UInt8 → Bool) (hp : ∀ c, blB c = true → p c = false) (x r r' : By) (h : run p (x ++ r) = x.length) (hc : Cut r r') : run p (x ++ r') = x.length := by
  have ⟨h1, h2⟩ := run_all p x r h
  refine run_stop p x r' h1 fun c hc' => ?_
  by_cases e : blB c = true
  · exact hp c e
  · exact h2 c (hc c hc' (by simpa using e)).1
theorem run_zero (p : UInt8 → Bool) (l : By) : run p l = 0 ↔ ∀ c, l[0]? = some c → p c = false := by
  cases l with
  | nil => simp [run]
  | cons c r =>
    rw [run_cons]
    by_cases e : p c = true
    · simp [e]
    · simp [e]
theorem drop_zero_get (l : By) (n : Nat) : (l.drop n)[0]? = l[n]? := by simp
end Lx
end Go.Proofs.YtfkccanjdlajlabGreatDoor
