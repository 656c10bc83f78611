/- Plain: modules as data: levels, depth, what is wrong, texts. -/
import Derived.KernelRfl
import Derived.WalkKit
namespace Go.Proofs.YtakkiipkmogagaaGreat
set_option linter.unusedSimpArgs false
set_option linter.unusedVariables false
namespace Te
open Go.RowKit (wrap64)

abbrev Bs := List UInt8
/-- An expression, but for its Kids. -/
structure EH where
  kind : Int
  op : Int
  mod : Bs
  name : Bs
  vt : Int
  vb : Int
  deriving DecidableEq
/-- Expressions in a row, each with its Kids. -/
inductive Exs where
  | nil : Exs
  | cons (h : EH) (kids rest : Exs) : Exs
  deriving DecidableEq
structure SH where
  kind : Int
  name : Bs
  deriving DecidableEq
/-- Statements in a row. -/
inductive Sts where
  | nil : Sts
  | cons (h : SH) (e : Exs) (body els rest : Sts) : Sts
  deriving DecidableEq
structure Pa where
  name : Bs
  type : Int
  deriving DecidableEq
structure De where
  kind : Int
  ex : Bool
  name : Bs
  type : Int
  params : List Pa
  e : Exs
  body : Sts
  deriving DecidableEq
structure Mo where
  name : Bs
  imports : List Bs
  decls : List De
  deriving DecidableEq

def Exs.len : Exs → Nat
  | .nil => 0
  | .cons _ _ r => r.len + 1
def Sts.len : Sts → Nat
  | .nil => 0
  | .cons _ _ _ _ r => r.len + 1
def Exs.size : Exs → Nat
  | .nil => 0
  | .cons _ k r => k.size + r.size + 1
def Sts.size : Sts → Nat
  | .nil => 0
  | .cons _ e b l r => e.size + b.size + l.size + r.size + 1
/-- The kind of the first, 0 if there is none. -/
def Exs.kind0 : Exs → Int
  | .nil => 0
  | .cons h _ _ => h.kind
theorem Exs.len_le : ∀ k : Exs, k.len ≤ k.size
  | .nil => Nat.le_refl _
  | .cons _ k r => by have := Exs.len_le r; simp only [Exs.len, Exs.size]; omega
theorem Sts.len_le : ∀ k : Sts, k.len ≤ k.size
  | .nil => Nat.le_refl _
  | .cons _ _ _ _ r => by have := Sts.len_le r; simp only [Sts.len, Sts.size]; omega

def lv2 (op : Int) : Int :=
  if op = 13 then 1 else if op = 12 then 2 else if 6 ≤ op ∧ op ≤ 11 then 3 else if op = 1 ∨ op = 2 then 4 else if 3 ≤ op ∧ op ≤ 5 then 5 else 7
def level (h : EH) : Int := if h.kind = 6 then (if h.op = 1 ∨ h.op = 2 then 6 else 7) else if h.kind = 7 then lv2 h.op else 7
def side (own : Int) (first : Bool) : Int := if own = 7 then 1 else if first = false ∨ own = 3 then own + 1 else own
def kidL (h : EH) (first : Bool) : Int := if h.kind = 6 then (if h.op = 1 ∨ h.op = 2 then 6 else 1) else if h.kind = 7 then side (lv2 h.op) first else 1
def kidD (h : EH) : Int := if h.kind = 4 ∨ h.kind = 5 then 1 else if h.kind = 6 then (if h.op = 1 ∨ h.op = 2 ∨ h.op = 3 ∨ h.op = 4 then 1 else 0) else 0

/-- Where an expression stands at a level and a depth. -/
def inAt (h : EH) (least at_ : Int) : Int := if level h < least then wrap64 (at_ + 1) else at_
/-- The greatest depth of Kids. -/
def dK (p : EH) : Exs → Bool → Int → Int → Int
  | .nil, _, _, acc => acc
  | .cons h k r, first, a, acc => dK p r false a (max acc (dK h k true (inAt h (kidL p first) (wrap64 (a + kidD p))) (inAt h (kidL p first) (wrap64 (a + kidD p)))))
def dX (h : EH) (k : Exs) (least a : Int) : Int := dK h k true (inAt h least a) (inAt h least a)
def dL : Exs → Int → Int → Int
  | .nil, _, acc => acc
  | .cons h k r, a, acc => dL r a (max acc (dX h k 1 a))
def hasBody (k : Int) : Bool := k == 3 || k == 4 || k == 8
def dS : Sts → Int → Int → Int
  | .nil, _, acc => acc
  | .cons h e b l r, a, acc =>
    let x1 := dL e a a
    let x2 := if hasBody h.kind || decide (0 < b.len) then max x1 (dS b (wrap64 (a + 1)) (wrap64 (a + 1))) else x1
    let x3 := if h.kind = 8 ∨ 0 < l.len then max x2 (dS l (wrap64 (a + 1)) (wrap64 (a + 1))) else x2
    dS r a (max acc x3)
def dD (d : De) : Int := if d.kind = 3 ∨ 0 < d.body.len then max (dL d.e 0 0) (dS d.body 1 1) else dL d.e 0 0
def dM (l : List De) : Int := l.foldl (fun acc d => max acc (dD d)) 0

def orE (a b : Int) : Int := if a = 0 then b else a
section
variable (rn : Bs → Int) (cn : Int → Int)
def litOk (vt vb : Int) : Bool :=
  if vt = 1 then decide (vb < 9223372036854775808) else if vt = 2 then decide (vb < 9223372036854775808) && decide (cn vb = vb) else if vt = 3 then decide (vb ≤ 1) else false
def fitsE (h : EH) (n : Nat) : Bool :=
  if h.kind = 1 then litOk cn h.vt h.vb && decide (h.op = 0 ∧ h.mod = [] ∧ h.name = [] ∧ n = 0)
  else if h.kind = 2 then decide (h.op = 0 ∧ h.mod = [] ∧ h.vt = 0 ∧ h.vb = 0 ∧ n = 0)
  else if h.kind = 3 then decide (h.op = 0 ∧ h.vt = 0 ∧ h.vb = 0 ∧ n = 0)
  else if h.kind = 4 then decide (h.op = 0 ∧ h.mod = [] ∧ h.vt = 0 ∧ h.vb = 0)
  else if h.kind = 5 then decide (h.op = 0 ∧ h.vt = 0 ∧ h.vb = 0)
  else if h.kind = 6 then decide (1 ≤ h.op ∧ h.op ≤ 4 ∧ n = 1 ∧ h.mod = [] ∧ h.name = [] ∧ h.vt = 0 ∧ h.vb = 0)
  else if h.kind = 7 then decide (1 ≤ h.op ∧ h.op ≤ 13 ∧ n = 2 ∧ h.mod = [] ∧ h.name = [] ∧ h.vt = 0 ∧ h.vb = 0)
  else if h.kind = 8 then decide (h.op = 0 ∧ h.mod = [] ∧ h.name = [] ∧ h.vt = 0 ∧ h.vb = 0 ∧ n = 0)
  else false
/-- The names of an expression. -/
def nameE (h : EH) : Int := if h.kind = 2 ∨ h.kind = 4 then rn h.name else if h.kind = 3 ∨ h.kind = 5 then orE (rn h.mod) (rn h.name) else 0
def errH (h : EH) (n : Nat) : Int := orE (if fitsE cn h n then 0 else 1) (orE (nameE rn h) (if 8 < n then 3 else 0))
def errL : Exs → Int
  | .nil => 0
  | .cons h k r => orE (orE (errH rn cn h k.len) (errL k)) (errL r)
def errX (h : EH) (k : Exs) : Int := orE (if 32 < dX h k 1 0 then 13 else 0) (orE (errH rn cn h k.len) (errL rn cn k))
def fitsS (h : SH) (e : Exs) (nb nl : Nat) : Bool :=
  if h.kind = 1 ∨ h.kind = 2 then decide (e.len = 1 ∧ nb = 0 ∧ nl = 0)
  else if h.kind = 3 then decide (e.len = 1 ∧ h.name = [])
  else if h.kind = 4 then decide (e.len = 1 ∧ h.name = [] ∧ nl = 0)
  else if h.kind = 5 then decide (e.len ≤ 1 ∧ h.name = [] ∧ nb = 0 ∧ nl = 0)
  else if h.kind = 6 ∨ h.kind = 7 then decide (e.len = 1 ∧ h.name = [] ∧ nb = 0 ∧ nl = 0)
  else if h.kind = 8 then decide (e.len = 0)
  else if h.kind = 9 then decide (e.len = 1 ∧ (e.kind0 = 4 ∨ e.kind0 = 5) ∧ h.name = [] ∧ nb = 0 ∧ nl = 0)
  else false
def nameS (h : SH) : Int := if h.kind = 1 ∨ h.kind = 2 ∨ h.kind = 8 then rn h.name else 0
def errSH (h : SH) (e : Exs) (nb nl : Nat) : Int := orE (if fitsS h e nb nl then 0 else 1) (nameS rn h)
def errS : Sts → Int
  | .nil => 0
  | .cons h e b l r => orE (orE (errSH rn h e b.len l.len) (orE (errL rn cn e) (orE (errS b) (errS l)))) (errS r)
def isTy (t : Int) : Bool := t == 1 || t == 2 || t == 3
def fitsD (d : De) : Bool :=
  if d.kind = 1 then isTy d.type && decide (d.e.len = 1 ∧ d.params.length = 0 ∧ d.body.len = 0)
  else if d.kind = 2 then !d.ex && isTy d.type && decide (d.e.len = 1 ∧ d.params.length = 0 ∧ d.body.len = 0)
  else if d.kind = 3 then (d.type == 0 || isTy d.type) && decide (d.e.len = 0)
  else false
def errP : List Pa → Int
  | [] => 0
  | p :: r => orE (orE (rn p.name) (if isTy p.type then 0 else 1)) (errP r)
def errD (d : De) : Int :=
  orE (if 32 < dD d then 13 else 0) (orE (if fitsD d then 0 else 1) (orE (rn d.name) (orE (if 8 < d.params.length then 3 else 0) (orE (errP rn d.params) (orE (errL rn cn d.e) (errS rn cn d.body))))))
def errI : List Bs → Int
  | [] => 0
  | x :: r => orE (rn x) (errI r)
def errDs : List De → Int
  | [] => 0
  | d :: r => orE (errD rn cn d) (errDs r)
def errM (m : Mo) : Int := orE (rn m.name) (orE (if 16 < m.imports.length then 3 else 0) (orE (errI rn m.imports) (orE (if 64 < m.decls.length then 3 else 0) (errDs rn cn m.decls))))
end

section
variable (tx : Int → Int → Bs)
def mark (op : Int) : Bs :=
  if op = 1 then [32, 43, 32] else if op = 2 then [32, 45, 32] else if op = 3 then [32, 42, 32] else if op = 4 then [32, 47, 32] else if op = 5 then [32, 37, 32]
  else if op = 6 then [32, 61, 61, 32] else if op = 7 then [32, 33, 61, 32] else if op = 8 then [32, 60, 32] else if op = 9 then [32, 60, 61, 32]
  else if op = 10 then [32, 62, 32] else if op = 11 then [32, 62, 61, 32] else if op = 12 then [32, 38, 38, 32] else [32, 124, 124, 32]
def sep (h : EH) : Bs := if h.kind = 7 then mark h.op else [44, 32]
def pre (h : EH) : Bs :=
  if h.kind = 1 then tx h.vt h.vb else if h.kind = 2 then h.name else if h.kind = 3 then h.mod ++ 46 :: h.name
  else if h.kind = 4 then h.name ++ [40] else if h.kind = 5 then (h.mod ++ 46 :: h.name) ++ [40]
  else if h.kind = 6 then (if h.op = 1 then [45] else if h.op = 2 then [33] else if h.op = 3 then [105, 110, 116, 40] else [102, 108, 111, 97, 116, 40])
  else if h.kind = 7 then [] else [105, 110, 112, 117, 116]
def post (h : EH) : Bs := if h.kind = 4 ∨ h.kind = 5 then [41] else if h.kind = 6 ∧ ¬ (h.op = 1 ∨ h.op = 2) then [41] else []
def par (b : Bool) (l : Bs) : Bs := if b then 40 :: l ++ [41] else l
def txK (p : EH) : Bool → Exs → Bs
  | _, .nil => []
  | first, .cons h k r => (if first then [] else sep p) ++ par (decide (level h < kidL p first)) (pre tx h ++ txK h true k ++ post h) ++ txK p false r
def bare (h : EH) (k : Exs) : Bs := pre tx h ++ txK tx h true k ++ post h
def txA (h : EH) (k : Exs) (least : Int) : Bs := par (decide (level h < least)) (bare tx h k)
/-- The text of the first of a row. -/
def txF : Exs → Bs
  | .nil => []
  | .cons h k _ => bare tx h k
def pad (n : Nat) : Bs := (List.replicate n [32, 32]).flatten
def tyT (t : Int) : Bs := if t = 1 then [58, 32, 105, 110, 116] else if t = 2 then [58, 32, 102, 108, 111, 97, 116] else if t = 3 then [58, 32, 98, 111, 111, 108] else []
def stT : Sts → Nat → Bs
  | .nil, _ => []
  | .cons h e b l r, n =>
    (if h.kind = 1 then pad n ++ [108, 101, 116, 32] ++ h.name ++ [32, 61, 32] ++ txF tx e ++ [59, 10]
     else if h.kind = 2 then pad n ++ h.name ++ [32, 61, 32] ++ txF tx e ++ [59, 10]
     else if h.kind = 3 then pad n ++ [105, 102, 32] ++ txF tx e ++ [32, 123, 10] ++ stT b (n + 1) ++ (if 0 < l.len then pad n ++ [125, 32, 101, 108, 115, 101, 32, 123, 10] ++ stT l (n + 1) else []) ++ pad n ++ [125, 10]
     else if h.kind = 4 then pad n ++ [119, 104, 105, 108, 101, 32] ++ txF tx e ++ [32, 123, 10] ++ stT b (n + 1) ++ pad n ++ [125, 10]
     else if h.kind = 5 then pad n ++ [114, 101, 116, 117, 114, 110] ++ (if 0 < e.len then 32 :: txF tx e else []) ++ [59, 10]
     else if h.kind = 6 then pad n ++ [115, 104, 111, 119, 32] ++ txF tx e ++ [59, 10]
     else if h.kind = 7 then pad n ++ [102, 97, 105, 108, 32] ++ txF tx e ++ [59, 10]
     else if h.kind = 8 then pad n ++ [116, 114, 121, 32, 123, 10] ++ stT b (n + 1) ++ pad n ++ [125, 32, 99, 97, 116, 99, 104, 32] ++ h.name ++ [32, 123, 10] ++ stT l (n + 1) ++ pad n ++ [125, 10]
     else pad n ++ txF tx e ++ [59, 10]) ++ stT r n
def paT : List Pa → Bs
  | [] => []
  | [p] => p.name ++ tyT p.type
  | p :: q :: r => p.name ++ tyT p.type ++ [44, 32] ++ paT (q :: r)
def exT (b : Bool) : Bs := if b then [101, 120, 112, 111, 114, 116, 32] else []
def deT (d : De) : Bs :=
  if d.kind = 1 then exT d.ex ++ [99, 111, 110, 115, 116, 32] ++ d.name ++ tyT d.type ++ [32, 61, 32] ++ txF tx d.e ++ [59, 10]
  else if d.kind = 2 then [118, 97, 114, 32] ++ d.name ++ tyT d.type ++ [32, 61, 32] ++ txF tx d.e ++ [59, 10]
  else exT d.ex ++ [102, 110, 32] ++ d.name ++ [40] ++ paT d.params ++ [41] ++ tyT d.type ++ [32, 123, 10] ++ stT tx d.body 1 ++ [125, 10]
def moT (m : Mo) : Bs :=
  [109, 111, 100, 117, 108, 101, 32] ++ m.name ++ [59, 10] ++ m.imports.flatMap (fun x => [105, 109, 112, 111, 114, 116, 32] ++ x ++ [59, 10]) ++ m.decls.flatMap (deT tx)
end

/-- How many there are, all through. -/
def ndE : Exs → Nat := Exs.size
def ndS : Sts → Nat := Sts.size
def ndD (d : De) : Nat := 1 + d.params.length + d.e.size + d.body.size
def ndM (l : List De) : Nat := (l.map ndD).sum
def usE : Exs → List Bs
  | .nil => []
  | .cons h k r => (if h.kind = 3 ∨ h.kind = 5 then [h.mod] else []) ++ usE k ++ usE r
def usS : Sts → List Bs
  | .nil => []
  | .cons _ e b l r => usE e ++ usS b ++ usS l ++ usS r
def usM (l : List De) : List Bs := l.flatMap fun d => usE d.e ++ usS d.body
end Te
end Go.Proofs.YtakkiipkmogagaaGreat
