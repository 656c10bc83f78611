/- Plain: what operators make of values. -/
import Derived.Test.YtakkiipkmogagaaGreatTyAll
import Derived.Test.YtakkiipkmogagaaGreatFxC
import Derived.Test.YtakkiipkmogagaaGreatIzA
namespace Go.Proofs.YtakkiipkmogagaaGreat.Fo
open Go.RowKit
set_option linter.unusedSimpArgs false
set_option linter.unusedVariables false

abbrev Bs := List UInt8
abbrev ct (l : Bs) : Value := .string ⟨l.toArray⟩
abbrev ci (z : Int) : Value := .int .i64 z
abbrev Vl := Int × Int
abbrev vv (v : Vl) : Value := .agg #[.int .i64 v.1, .int .u64 v.2]
abbrev U64 := Ty.U64
abbrev I64 := Z.I64
abbrev rightV := Ty.rightV
def truthF (b : Bool) : Vl := (3, if b then 1 else 0)
def trapF (e : Int) : Int := if e = 80 then 1 else if e = 81 then 2 else 3
def wholeF (n e : Int) : Vl × Int := if e = 0 then ((1, IntKind.u64.wrap n), 0) else ((0, 0), trapF e)
def errnoF (t : Int) : Int := if t = 0 then 0 else if t = 1 then 80 else if t = 2 then 81 else if t = 3 then 82 else 22
def cmpF (op o : Int) : Bool := if op = 6 then decide (o = 0) else if op = 7 then decide (o ≠ 0) else if op = 8 then decide (o < 0) else if op = 9 then decide (o ≤ 0) else if op = 10 then decide (0 < o) else decide (0 ≤ o)
def intsF (op a b : Int) : Vl × Int :=
  if op = 1 then wholeF (Z.fitV (a + b)) (Z.fitE (a + b)) else if op = 2 then wholeF (Z.fitV (a - b)) (Z.fitE (a - b)) else if op = 3 then wholeF (Z.fitV (a * b)) (Z.fitE (a * b))
  else if op = 4 then wholeF (Z.divV a b) (Z.divE a b) else if op = 5 then wholeF (Z.remV a b) (Z.remE b) else (truthF (cmpF op (Z.cmpS a b)), 0)
def fcmpF (op a b : Int) : Bool :=
  if op = 6 then F.Fl.eqS a b else if op = 7 then !F.Fl.eqS a b else if op = 8 then F.Fl.lessS a b else if op = 9 then F.Fl.lessS a b || F.Fl.eqS a b
  else if op = 10 then F.Fl.lessS b a else F.Fl.lessS b a || F.Fl.eqS b a
def fltsF (op a b : Int) : Vl :=
  if op = 1 then (2, F.resS (floatBits .add .f64 a.toNat b.toNat)) else if op = 2 then (2, F.resS (floatBits .sub .f64 a.toNat b.toNat))
  else if op = 3 then (2, F.resS (floatBits .mul .f64 a.toNat b.toNat)) else if op = 4 then (2, F.resS (floatBits .quo .f64 a.toNat b.toNat)) else truthF (fcmpF op a b)
def boolsF (op : Int) (a b : Bool) : Vl := if op = 6 then truthF (a == b) else if op = 7 then truthF (a != b) else if op = 12 then truthF (a && b) else truthF (a || b)
def binF (op : Int) (a b : Vl) : Vl × Int :=
  if (Ty.binS op a.1 b.1).2 ≠ 0 ∨ rightV a.1 a.2 = false ∨ rightV b.1 b.2 = false then ((0, 0), -1)
  else if a.1 = 1 then intsF op (wrap64 a.2) (wrap64 b.2) else if a.1 = 2 then (fltsF op a.2 b.2, 0) else (boolsF op (a.2 == 1) (b.2 == 1), 0)
def unF (op : Int) (a : Vl) : Vl × Int :=
  if (Ty.unS op a.1).2 ≠ 0 ∨ rightV a.1 a.2 = false then ((0, 0), -1)
  else if op = 1 then (if a.1 = 2 then ((2, F.Fl.negS a.2), 0) else wholeF (Z.fitV (-(wrap64 a.2))) (Z.fitE (-(wrap64 a.2))))
  else if op = 2 then (truthF (a.2 == 0), 0) else if op = 3 then wholeF (F.toI a.2) (F.toE a.2) else ((2, ((floatOfInt .f64 (wrap64 a.2) : Nat) : Int)), 0)
theorem wrapI (b : Int) : I64 (wrap64 b) := by show Z.I64 _; unfold Z.I64 wrap64; omega
theorem uwrap (n : Int) : IntKind.u64.wrap n = n % 18446744073709551616 := by rw [IntKind.wrap_u64]
theorem wrap_back (n : Int) (h : I64 n) : wrap64 (IntKind.u64.wrap n) = n := by
  have h' : Z.I64 n := h
  unfold Z.I64 at h'
  rw [uwrap]; unfold wrap64; omega
theorem uwrapU (n : Int) : U64 (IntKind.u64.wrap n) := by show Ty.U64 _; rw [uwrap]; unfold Ty.U64; omega
theorem binF_no {op : Int} {a b : Vl} (h : (Ty.binS op a.1 b.1).2 ≠ 0 ∨ Ty.rightV a.1 a.2 = false ∨ Ty.rightV b.1 b.2 = false) : binF op a b = ((0, 0), -1) := if_pos h
theorem binF_yes {op : Int} {a b : Vl} (h1 : (Ty.binS op a.1 b.1).2 = 0) (h2 : Ty.rightV a.1 a.2 = true) (h3 : Ty.rightV b.1 b.2 = true) : binF op a b = if a.1 = 1 then intsF op (wrap64 a.2) (wrap64 b.2) else if a.1 = 2 then (fltsF op a.2 b.2, 0) else (boolsF op (a.2 == 1) (b.2 == 1), 0) :=
  if_neg (by rintro (h | h | h); exact h h1; exact absurd (show Ty.rightV a.1 a.2 = false from h) (by rw [h2]; simp); exact absurd (show Ty.rightV b.1 b.2 = false from h) (by rw [h3]; simp))
theorem unF_no {op : Int} {a : Vl} (h : (Ty.unS op a.1).2 ≠ 0 ∨ Ty.rightV a.1 a.2 = false) : unF op a = ((0, 0), -1) := if_pos h
theorem unF_yes {op : Int} {a : Vl} (h1 : (Ty.unS op a.1).2 = 0) (h2 : Ty.rightV a.1 a.2 = true) : unF op a = if op = 1 then (if a.1 = 2 then ((2, F.Fl.negS a.2), 0) else wholeF (Z.fitV (-(wrap64 a.2))) (Z.fitE (-(wrap64 a.2))))
    else if op = 2 then (truthF (a.2 == 0), 0) else if op = 3 then wholeF (F.toI a.2) (F.toE a.2) else ((2, ((floatOfInt .f64 (wrap64 a.2) : Nat) : Int)), 0) :=
  if_neg (by rintro (h | h); exact h h1; exact absurd (show Ty.rightV a.1 a.2 = false from h) (by rw [h2]; simp))
end Go.Proofs.YtakkiipkmogagaaGreat.Fo
