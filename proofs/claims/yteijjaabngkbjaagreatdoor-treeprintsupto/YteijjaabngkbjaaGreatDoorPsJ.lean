/- Plain: statements' tokens are read as those statements. -/
import Derived.Test.YteijjaabngkbjaaGreatDoorPsE
namespace Go.Proofs.YteijjaabngkbjaaGreatDoor
set_option linter.unusedSimpArgs false
set_option linter.unusedVariables false
namespace Pz
open Lx Te
open Go.RowKit (wrap64)

section
variable (tx : Int → Int → Bs)
def kF : Exs → List Tok
  | .nil => []
  | .cons h k _ => kB tx h k
def kSt : Sts → List Tok
  | .nil => []
  | .cons h e b l r =>
    (if h.kind = 1 then tW [108, 101, 116] :: tN h.name :: tM [61] :: (kF tx e ++ [tM [59]])
     else if h.kind = 2 then tN h.name :: tM [61] :: (kF tx e ++ [tM [59]])
     else if h.kind = 3 then tW [105, 102] :: (kF tx e ++ tM [123] :: (kSt b ++ tM [125] :: (if 0 < l.len then tW [101, 108, 115, 101] :: tM [123] :: (kSt l ++ [tM [125]]) else [])))
     else if h.kind = 4 then tW [119, 104, 105, 108, 101] :: (kF tx e ++ tM [123] :: (kSt b ++ [tM [125]]))
     else if h.kind = 5 then tW [114, 101, 116, 117, 114, 110] :: (kF tx e ++ [tM [59]])
     else if h.kind = 6 then tW [115, 104, 111, 119] :: (kF tx e ++ [tM [59]])
     else if h.kind = 7 then tW [102, 97, 105, 108] :: (kF tx e ++ [tM [59]])
     else if h.kind = 8 then tW [116, 114, 121] :: tM [123] :: (kSt b ++ tM [125] :: tW [99, 97, 116, 99, 104] :: tN h.name :: tM [123] :: (kSt l ++ [tM [125]]))
     else kF tx e ++ [tM [59]]) ++ kSt r
end
/-- No number below zero, all through. -/
def NnS : Sts → Prop
  | .nil => True
  | .cons _ e b l r => NnX e ∧ NnS b ∧ NnS l ∧ NnS r
theorem dL_acc : ∀ (e : Exs) (a acc : Int), acc ≤ dL e a acc
  | .nil, _, acc => Int.le_refl _
  | .cons h k r, a, acc => by
    rw [dL]
    have := dL_acc r a (max acc (dX h k 1 a))
    omega
theorem dS_acc : ∀ (s : Sts) (a acc : Int), acc ≤ dS s a acc
  | .nil, _, acc => Int.le_refl _
  | .cons h e b l r, a, acc => by
    rw [dS]
    refine Int.le_trans ?_ (dS_acc r a _)
    omega
/-- One statement's depth, and the rest's. -/
theorem dS_cons {h : SH} {e : Exs} {b l r : Sts} {a acc : Int} (h0 : 0 ≤ a) (h1 : a ≤ 32) (H : dS (.cons h e b l r) a acc ≤ 32) :
    dL e a a ≤ 32 ∧ ((hasBody h.kind = true ∨ 0 < b.len) → dS b (a + 1) (a + 1) ≤ 32) ∧ ((h.kind = 8 ∨ 0 < l.len) → dS l (a + 1) (a + 1) ≤ 32) ∧ ∃ acc', dS r a acc' ≤ 32 := by
  rw [dS, wrap_sm (a := a + 1) (by omega) (by omega)] at H
  have h2 := dS_acc r a (max acc (if h.kind = 8 ∨ 0 < l.len then max (if hasBody h.kind || decide (0 < b.len) then max (dL e a a) (dS b (a + 1) (a + 1)) else dL e a a) (dS l (a + 1) (a + 1)) else if hasBody h.kind || decide (0 < b.len) then max (dL e a a) (dS b (a + 1) (a + 1)) else dL e a a))
  have h3 := Int.le_trans h2 H
  refine ⟨?_, ?_, ?_, _, H⟩
  · split at h3 <;> split at h3 <;> omega
  · intro hb
    rw [if_pos (c := (hasBody h.kind || decide (0 < b.len)) = true) (by simpa using hb)] at h3
    split at h3 <;> omega
  · intro hl
    rw [if_pos hl] at h3
    omega
theorem lone_dep {h : EH} {k : Exs} {a acc : Int} (H : dL (.cons h k .nil) a acc ≤ 32) : dX h k 1 a ≤ 32 := by
  rw [dL, dL] at H
  omega
theorem one_of {e : Exs} (h : e.len = 1) : ∃ x k, e = .cons x k .nil := by
  cases e with
  | nil => simp [Exs.len] at h
  | cons x k r =>
    simp [Exs.len] at h
    obtain rfl := len0 h
    exact ⟨x, k, rfl⟩
theorem len0S {k : Sts} (h : k.len = 0) : k = .nil := by
  cases k with
  | nil => rfl
  | cons _ _ _ _ _ => simp [Sts.len] at h
section
variable {rn : Bs → Int} {cn : Int → Int} {tx : Int → Int → Bs} (L : Law rn cn tx)
include L
/-- What ends an expression in a statement. -/
theorem lone_back (h : EH) (k : Exs) (hR : errL rn cn (.cons h k .nil) = 0) (hN : NnX (.cons h k .nil)) (g d : Nat) (t : Tok) (rest : List Tok) (ht : t.x = [59] ∨ t.x = [123]) (hg : (kF tx (.cons h k .nil) ++ t :: rest).length < g) (hd : d ≤ 32) (hD : dX h k 1 (d : Int) ≤ 32) :
    lone (E0 g) d (kF tx (.cons h k .nil) ++ t :: rest) = some (.ok (.cons h k .nil) (t :: rest)) := by
  obtain ⟨hR, _⟩ := RX_kid hR
  have := expr_back L h k hR hN.1 hN.2.1 g d (t :: rest) hg hd hD ⟨t, rest, rfl, by rcases ht with e | e <;> rw [e] <;> decide, by rcases ht with e | e <;> rw [e] <;> decide, by rcases ht with e | e <;> rw [e] <;> decide⟩
  unfold lone E0
  rw [kF, this, bd_ok]
theorem kF_pos (h : EH) (k r : Exs) (hR : errL rn cn (.cons h k r) = 0) (hN : NnX (.cons h k r)) : ∃ t r', kF tx (.cons h k r) = t :: r' := by
  obtain ⟨hR, _⟩ := RX_kid hR
  obtain ⟨t, r', e, _⟩ := head_ok L _ h k (Nat.lt_succ_self _) hR hN.1 hN.2.1
  exact ⟨t, r', e⟩
end
end Pz
end Go.Proofs.YteijjaabngkbjaaGreatDoor
