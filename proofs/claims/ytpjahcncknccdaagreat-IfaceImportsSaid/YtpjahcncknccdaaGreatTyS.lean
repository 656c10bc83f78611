/- Plain: types of values, operators, items, interfaces. -/
import Derived.Test.YtpjahcncknccdaaGreatNxA
namespace Go.Proofs.YtpjahcncknccdaaGreat.Ty
open Go.RowKit
set_option linter.unusedSimpArgs false
set_option linter.unusedVariables false

abbrev Bs := List UInt8
abbrev ct (l : Bs) : Value := .string ⟨l.toArray⟩
abbrev ci (z : Int) : Value := .int .i64 z
def I64 (z : Int) : Prop := -9223372036854775808 ≤ z ∧ z ≤ 9223372036854775807
def OkN (l : Bs) : Prop := l.length ≤ 9223372036854775807
def U64 (z : Int) : Prop := 0 ≤ z ∧ z < 18446744073709551616
/-- An item. -/
structure It where
  kind : Int
  name : Bs
  typ : Int
  bits : Int
  params : List Int
deriving DecidableEq
/-- An interface. -/
structure Fc where
  name : Bs
  items : List It
deriving DecidableEq
instance : Inhabited It := ⟨⟨0, [], 0, 0, []⟩⟩
def valued (t : Int) : Bool := t == 1 || t == 2 || t == 3
def nameS (t : Int) : Bs := if t = 1 then [105, 110, 116] else if t = 2 then [102, 108, 111, 97, 116] else if t = 3 then [98, 111, 111, 108] else []
def findS (s : Bs) : Int × Bool := if s = [105, 110, 116] then (1, true) else if s = [102, 108, 111, 97, 116] then (2, true) else if s = [98, 111, 111, 108] then (3, true) else (0, false)
def truthS (b : Int) : Bs := if b = 0 then [102, 97, 108, 115, 101] else [116, 114, 117, 101]
def unS (op t : Int) : Int × Int :=
  if op = 1 then (if t = 1 then (1, 0) else if t = 2 then (2, 0) else (0, 22))
  else if op = 2 then (if t = 3 then (3, 0) else (0, 22))
  else if op = 3 then (if t = 2 then (1, 0) else (0, 22))
  else if op = 4 then (if t = 1 then (2, 0) else (0, 22)) else (0, 1)
/-- What an operator of two makes of two of the type a, by four numbers. -/
def rowB (op : Int) : Int × Int × Int :=
  if op ≤ 4 then (1, 2, 0) else if op = 5 then (1, 0, 0) else if op ≤ 7 then (3, 3, 3) else if op ≤ 11 then (3, 3, 0) else (0, 0, 3)
def takenS (x1 x2 x3 t : Int) : Int × Int :=
  if t = 1 then (if x1 = 0 then (0, 22) else (x1, 0)) else if t = 2 then (if x2 = 0 then (0, 22) else (x2, 0)) else if t = 3 then (if x3 = 0 then (0, 22) else (x3, 0)) else (0, 22)
def binS (op a b : Int) : Int × Int :=
  if op < 1 ∨ 13 < op then (0, 1) else if a ≠ b then (0, 22) else takenS (rowB op).1 (rowB op).2.1 (rowB op).2.2 a
def fitsFn (i : It) : Bool := (i.typ == 0 || valued i.typ) && i.bits == 0 && i.params.all valued
def joinS (sep : Bs) : List Bs → Bs
  | [] => []
  | [a] => a
  | a :: b :: r => a ++ sep ++ joinS sep (b :: r)
def paramsS (l : List Int) : Bs := joinS [44, 32] (l.map nameS)
def resultS (t : Int) : Bs := if nameS t = [] then [] else [58, 32] ++ nameS t
structure OkI (i : It) : Prop where
  kind : I64 i.kind
  name : OkN i.name
  typ : I64 i.typ
  bits : U64 i.bits
  params : ∀ p ∈ i.params, I64 p
  len : i.params.length ≤ 9223372036854775807

theorem valued_iff (t : Int) : valued t = true ↔ (t = 1 ∨ t = 2 ∨ t = 3) := by simp [valued, or_assoc]
theorem nameS_val {t : Int} (h : valued t = false) : nameS t = [] := by
  have : ¬ (t = 1 ∨ t = 2 ∨ t = 3) := fun h' => by rw [(valued_iff t).2 h'] at h; cases h
  unfold nameS
  rw [if_neg (fun e => this (Or.inl e)), if_neg (fun e => this (Or.inr (Or.inl e))), if_neg (fun e => this (Or.inr (Or.inr e)))]
end Go.Proofs.YtpjahcncknccdaaGreat.Ty
