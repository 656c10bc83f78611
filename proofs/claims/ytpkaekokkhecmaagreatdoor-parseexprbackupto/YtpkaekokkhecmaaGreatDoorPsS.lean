/- Plain: the parser, on tokens. -/
import Derived.Test.YtpkaekokkhecmaaGreatDoorLxAll
import Derived.Test.YtpkaekokkhecmaaGreatDoorTrS
namespace Go.Proofs.YtpkaekokkhecmaaGreatDoor
set_option linter.unusedSimpArgs false
set_option linter.unusedVariables false
namespace Te
def Exs.app : Exs → Exs → Exs
  | .nil, y => y
  | .cons h k r, y => .cons h k (r.app y)
def Sts.app : Sts → Sts → Sts
  | .nil, y => y
  | .cons h e b l r, y => .cons h e b l (r.app y)
theorem Exs.app_len : ∀ (x y : Exs), (x.app y).len = x.len + y.len
  | .nil, y => by simp [Exs.app, Exs.len]
  | .cons h k r, y => by simp only [Exs.app, Exs.len, Exs.app_len r y]; omega
theorem Sts.app_len : ∀ (x y : Sts), (x.app y).len = x.len + y.len
  | .nil, y => by simp [Sts.app, Sts.len]
  | .cons h e b l r, y => by simp only [Sts.app, Sts.len, Sts.app_len r y]; omega
theorem Exs.app_nil : ∀ (x : Exs), x.app .nil = x
  | .nil => rfl
  | .cons h k r => by simp only [Exs.app, Exs.app_nil r]
theorem Sts.app_nil : ∀ (x : Sts), x.app .nil = x
  | .nil => rfl
  | .cons h e b l r => by simp only [Sts.app, Sts.app_nil r]
theorem Exs.app_assoc : ∀ (x y z : Exs), (x.app y).app z = x.app (y.app z)
  | .nil, y, z => rfl
  | .cons h k r, y, z => by simp only [Exs.app, Exs.app_assoc r y z]
theorem Sts.app_assoc : ∀ (x y z : Sts), (x.app y).app z = x.app (y.app z)
  | .nil, y, z => rfl
  | .cons h e b l r, y, z => by simp only [Sts.app, Sts.app_assoc r y z]
end Te
namespace Pz
open Lx Te

inductive Rs (α : Type) where
  | ok (a : α) (ts : List Tok)
  | er (p : Nat) (c : Int)
abbrev Ou (α : Type) := Option (Rs α)
def bd {α β : Type} (m : Ou α) (k : α → List Tok → Ou β) : Ou β :=
  match m with
  | none => none
  | some (.er p c) => some (.er p c)
  | some (.ok a ts) => k a ts
@[simp] theorem bd_none {α β : Type} (k : α → List Tok → Ou β) : bd (none : Ou α) k = none := rfl
@[simp] theorem bd_er {α β : Type} (p : Nat) (c : Int) (k : α → List Tok → Ou β) : bd (some (.er p c) : Ou α) k = some (.er p c) := rfl
@[simp] theorem bd_ok {α β : Type} (a : α) (ts : List Tok) (k : α → List Tok → Ou β) : bd (some (.ok a ts)) k = k a ts := rfl

abbrev Ex := EH × Exs
abbrev St := SH × Exs × Sts × Sts
def tk (fl : Bool) : List Tok → Ou Tok
  | [] => none
  | t :: r => if fl then some (.er t.p 3) else some (.ok t r)
def must (s : Bs) (fl : Bool) : List Tok → Ou Unit
  | [] => none
  | t :: r => if t.x = s then (if fl then some (.er t.p 3) else some (.ok () r)) else some (.er t.p 11)
def has (s : Bs) (fl : Bool) : List Tok → Ou Bool
  | [] => none
  | t :: r => if t.x = s then (if fl then some (.er t.p 3) else some (.ok true r)) else some (.ok false (t :: r))
def name (fl : Bool) : List Tok → Ou Bs
  | [] => none
  | t :: r => if t.k = 1 then (if fl then some (.er t.p 3) else some (.ok t.x r)) else some (.er t.p 11)
def opn (s : Bs) (fl : Bool) (d : Nat) : List Tok → Ou Unit
  | [] => none
  | t :: r => if t.x = s then (if d = 32 then some (.er t.p 13) else if fl then some (.er t.p 3) else some (.ok () r)) else some (.er t.p 11)
def opOf (x : Bs) : Int × Nat :=
  if x = [124, 124] then (13, 1) else if x = [38, 38] then (12, 2) else if x = [61, 61] then (6, 3) else if x = [33, 61] then (7, 3) else if x = [60] then (8, 3) else if x = [60, 61] then (9, 3)
  else if x = [62] then (10, 3) else if x = [62, 61] then (11, 3) else if x = [43] then (1, 4) else if x = [45] then (2, 4) else if x = [42] then (3, 5) else if x = [47] then (4, 5) else if x = [37] then (5, 5) else (0, 0)
def lit (ty b : Int) : Ex := (⟨1, 0, [], [], ty, b⟩, .nil)
def one (op : Int) (e : Ex) : Ex := (⟨6, op, [], [], 0, 0⟩, .cons e.1 e.2 .nil)
def bin (op : Int) (a b : Ex) : Ex := (⟨7, op, [], [], 0, 0⟩, .cons a.1 a.2 (.cons b.1 b.2 .nil))
def refr (fl : Bool) (ts : List Tok) : Ou Ex :=
  bd (name fl ts) fun n ts => bd (has [46] false ts) fun b ts => if b then bd (name false ts) fun m ts => some (.ok (⟨3, 0, n, m, 0, 0⟩, .nil) ts) else some (.ok (⟨2, 0, [], n, 0, 0⟩, .nil) ts)
def callH (h : EH) : EH := { h with kind := if h.kind = 3 then 5 else 4 }

/- Expressions, given what reads one that stands within. -/
section
variable (E : Bool → Nat → List Tok → Ou Ex)
def ins (fl : Bool) (d : Nat) (ts : List Tok) : Ou Ex :=
  bd (opn [40] fl d ts) fun _ ts => bd (E false (d + 1) ts) fun e ts => bd (must [41] false ts) fun _ ts => some (.ok e ts)
def rwE (d : Nat) : Nat → Exs → List Tok → Ou Exs
  | 0, _, _ => none
  | _ + 1, _, [] => none
  | g + 1, acc, t :: r => if t.x = [44] then bd (E (acc.len == 8) d r) fun e ts => rwE d g (acc.app (.cons e.1 e.2 .nil)) ts else some (.ok acc (t :: r))
def args (g d : Nat) : List Tok → Ou Exs
  | t :: u :: r => if t.x = [40] ∧ u.x = [41] then some (.ok .nil r) else
      bd (opn [40] false d (t :: u :: r)) fun _ ts => bd (E false (d + 1) ts) fun e ts => bd (rwE E (d + 1) g (.cons e.1 e.2 .nil) ts) fun l ts => bd (must [41] false ts) fun _ ts => some (.ok l ts)
  | [t] => if t.x = [40] then none else some (.er t.p 11)
  | [] => none
def call (g d : Nat) (e : Ex) (ts : List Tok) : Ou Ex := bd (args E g d ts) fun l ts => some (.ok (callH e.1, l) ts)
def pr (g : Nat) (fl : Bool) (d : Nat) : List Tok → Ou Ex
  | [] => none
  | t :: r =>
    if t.k = 3 ∨ t.k = 4 then (if fl then some (.er t.p 3) else some (.ok (lit t.ty t.b) r))
    else if t.k = 1 then bd (refr fl (t :: r)) fun e ts => match ts with
      | [] => none
      | u :: r' => if u.x = [40] then call E g d e (u :: r') else some (.ok e (u :: r'))
    else if t.x = [116, 114, 117, 101] then (if fl then some (.er t.p 3) else some (.ok (lit 3 1) r))
    else if t.x = [102, 97, 108, 115, 101] then (if fl then some (.er t.p 3) else some (.ok (lit 3 0) r))
    else if t.x = [105, 110, 102] then (if fl then some (.er t.p 3) else some (.ok (lit 2 9218868437227405312) r))
    else if t.x = [110, 97, 110] then (if fl then some (.er t.p 3) else some (.ok (lit 2 9221120237041090561) r))
    else if t.x = [105, 110, 112, 117, 116] then (if fl then some (.er t.p 3) else some (.ok (⟨8, 0, [], [], 0, 0⟩, .nil) r))
    else if t.x = [105, 110, 116] then (if fl then some (.er t.p 3) else bd (ins E false d r) fun e ts => some (.ok (one 3 e) ts))
    else if t.x = [102, 108, 111, 97, 116] then (if fl then some (.er t.p 3) else bd (ins E false d r) fun e ts => some (.ok (one 4 e) ts))
    else ins E fl d (t :: r)
def un (g : Nat) : Nat → Bool → Nat → List Tok → Ou Ex
  | 0, _, _, _ => none
  | _ + 1, _, _, [] => none
  | f + 1, fl, d, t :: r =>
    if t.x = [45] then bd (opn [45] fl d (t :: r)) fun _ ts => bd (un g f false (d + 1) ts) fun e ts => some (.ok (one 1 e) ts)
    else if t.x = [33] then bd (opn [33] fl d (t :: r)) fun _ ts => bd (un g f false (d + 1) ts) fun e ts => some (.ok (one 2 e) ts)
    else pr E g fl d (t :: r)
/-- Operators of one level, given what they hold together. -/
def lp (N : List Tok → Ou Ex) (lv : Nat) : Nat → Ex → List Tok → Ou Ex
  | 0, _, _ => none
  | _ + 1, _, [] => none
  | f + 1, e, t :: r => if (opOf t.x).2 ≠ lv then some (.ok e (t :: r)) else
      bd (N r) fun e2 ts => if lv = 3 then some (.ok (bin (opOf t.x).1 e e2) ts) else lp N lv f (bin (opOf t.x).1 e e2) ts
/-- n: 6 less the level. -/
def two (g : Nat) : Nat → Bool → Nat → List Tok → Ou Ex
  | 0, fl, d, ts => un E g g fl d ts
  | n + 1, fl, d, ts => bd (two g n fl d ts) fun e ts => lp (two g n false d) (5 - n) g e ts
end
def expr : Nat → Bool → Nat → List Tok → Ou Ex
  | 0, _, _, _ => none
  | f + 1, fl, d, ts => two (expr f) (f + 1) 5 fl d ts

/- Statements, given what reads an expression and a block. -/
section
variable (E : Nat → List Tok → Ou Ex) (C : Nat → Ex → List Tok → Ou Ex)
def lone (d : Nat) (ts : List Tok) : Ou Exs := bd (E d ts) fun e ts => some (.ok (.cons e.1 e.2 .nil) ts)
def ended (kind : Int) (n : Bs) (e : Exs) (ts : List Tok) : Ou St := bd (must [59] false ts) fun _ ts => some (.ok (⟨kind, n⟩, e, .nil, .nil) ts)
def asg (d : Nat) (kind : Int) (n : Bs) (ts : List Tok) : Ou St := bd (must [61] false ts) fun _ ts => bd (lone E d ts) fun e ts => ended kind n e ts
def named (d : Nat) (ts : List Tok) : Ou St := bd (refr false ts) fun e ts => match ts with
  | [] => none
  | u :: r => if e.1.kind = 2 ∧ u.x = [61] then asg E d 2 e.1.name (u :: r) else bd (C d e (u :: r)) fun c ts => ended 9 [] (.cons c.1 c.2 .nil) ts
variable (B : Nat → List Tok → Ou Sts)
def branch (d : Nat) (ts : List Tok) : Ou St := bd (lone E d ts) fun e ts => bd (B d ts) fun b ts => bd (has [101, 108, 115, 101] false ts) fun y ts =>
  if y then bd (B d ts) fun l ts => some (.ok (⟨3, []⟩, e, b, l) ts) else some (.ok (⟨3, []⟩, e, b, .nil) ts)
def while_ (d : Nat) (ts : List Tok) : Ou St := bd (lone E d ts) fun e ts => bd (B d ts) fun b ts => some (.ok (⟨4, []⟩, e, b, .nil) ts)
def returned (d : Nat) : List Tok → Ou St
  | [] => none
  | t :: r => if t.x = [59] then ended 5 [] .nil (t :: r) else bd (lone E d (t :: r)) fun e ts => ended 5 [] e ts
def tried (d : Nat) (ts : List Tok) : Ou St := bd (B d ts) fun b ts => bd (must [99, 97, 116, 99, 104] false ts) fun _ ts => bd (name false ts) fun n ts => bd (B d ts) fun l ts => some (.ok (⟨8, n⟩, .nil, b, l) ts)
def stm (d : Nat) : List Tok → Ou St
  | [] => none
  | t :: r =>
    if t.k = 1 then named E C d (t :: r)
    else if t.x = [108, 101, 116] then bd (name false r) fun n ts => asg E d 1 n ts
    else if t.x = [105, 102] then branch E B d r
    else if t.x = [119, 104, 105, 108, 101] then while_ E B d r
    else if t.x = [114, 101, 116, 117, 114, 110] then returned E d r
    else if t.x = [115, 104, 111, 119] then bd (lone E d r) fun e ts => ended 6 [] e ts
    else if t.x = [102, 97, 105, 108] then bd (lone E d r) fun e ts => ended 7 [] e ts
    else if t.x = [116, 114, 121] then tried B d r
    else some (.er t.p 11)
end
/-- Statements up to the end of their block. -/
def sts (S : List Tok → Ou St) : Nat → Sts → List Tok → Ou Sts
  | 0, _, _ => none
  | _ + 1, _, [] => none
  | g + 1, acc, t :: r => if t.x = [125] then some (.ok acc (t :: r)) else bd (S (t :: r)) fun s ts => sts S g (acc.app (.cons s.1 s.2.1 s.2.2.1 s.2.2.2 .nil)) ts
def blk (E : Nat → List Tok → Ou Ex) (C : Nat → Ex → List Tok → Ou Ex) (g : Nat) : Nat → Nat → List Tok → Ou Sts
  | 0, _, _ => none
  | f + 1, d, ts => bd (opn [123] false d ts) fun _ ts => bd (sts (stm E C (blk E C g f) (d + 1)) g .nil ts) fun l ts => bd (must [125] false ts) fun _ ts => some (.ok l ts)

def typ : List Tok → Ou Int
  | [] => none
  | t :: r => if t.x = [105, 110, 116] then some (.ok 1 r) else if t.x = [102, 108, 111, 97, 116] then some (.ok 2 r) else if t.x = [98, 111, 111, 108] then some (.ok 3 r) else some (.er t.p 11)
def par1 (fl : Bool) (ts : List Tok) : Ou Pa := bd (name fl ts) fun n ts => bd (must [58] false ts) fun _ ts => bd (typ ts) fun t ts => some (.ok ⟨n, t⟩ ts)
def rwP : Nat → List Pa → List Tok → Ou (List Pa)
  | 0, _, _ => none
  | _ + 1, _, [] => none
  | g + 1, acc, t :: r => if t.x = [44] then bd (par1 (acc.length == 8) r) fun p ts => rwP g (acc ++ [p]) ts else some (.ok acc (t :: r))
section
variable (E : Nat → List Tok → Ou Ex) (B : Nat → List Tok → Ou Sts) (g : Nat)
def holder (kind : Int) (ex : Bool) (ts : List Tok) : Ou De :=
  bd (name false ts) fun n ts => bd (must [58] false ts) fun _ ts => bd (typ ts) fun t ts => bd (must [61] false ts) fun _ ts => bd (lone E 0 ts) fun e ts => bd (must [59] false ts) fun _ ts => some (.ok ⟨kind, ex, n, t, [], e, .nil⟩ ts)
def params : List Tok → Ou (List Pa)
  | [] => none
  | t :: r => if t.x = [41] then some (.ok [] (t :: r)) else bd (par1 false (t :: r)) fun p ts => rwP g [p] ts
def result (ts : List Tok) : Ou Int := bd (has [58] false ts) fun y ts => if y then typ ts else some (.ok 0 ts)
def fnc (ex : Bool) (ts : List Tok) : Ou De :=
  bd (name false ts) fun n ts => bd (must [40] false ts) fun _ ts => bd (params g ts) fun ps ts => bd (must [41] false ts) fun _ ts => bd (result ts) fun t ts => bd (B 0 ts) fun b ts => some (.ok ⟨3, ex, n, t, ps, .nil, b⟩ ts)
def dcl2 (ex fl : Bool) : List Tok → Ou De
  | [] => none
  | t :: r => if t.x = [99, 111, 110, 115, 116] then (if fl then some (.er t.p 3) else holder E 1 ex r)
    else if ex = false ∧ t.x = [118, 97, 114] then (if fl then some (.er t.p 3) else holder E 2 ex r)
    else if t.x = [102, 110] then (if fl then some (.er t.p 3) else fnc B g ex r) else some (.er t.p 11)
def dcl (fl : Bool) : List Tok → Ou De
  | [] => none
  | t :: r => if t.x = [101, 120, 112, 111, 114, 116] then (if fl then some (.er t.p 3) else dcl2 E B g true false r) else dcl2 E B g false fl (t :: r)
def dcls : Nat → List De → List Tok → Ou (List De)
  | 0, _, _ => none
  | _ + 1, _, [] => none
  | _ + 1, acc, [t] => some (.ok acc [t])
  | f + 1, acc, t :: u :: r => bd (dcl E B g (acc.length == 64) (t :: u :: r)) fun d ts => dcls f (acc ++ [d]) ts
end
def imp1 (fl : Bool) (ts : List Tok) : Ou Bs := bd (must [105, 109, 112, 111, 114, 116] fl ts) fun _ ts => bd (name false ts) fun n ts => bd (must [59] false ts) fun _ ts => some (.ok n ts)
def imps : Nat → List Bs → List Tok → Ou (List Bs)
  | 0, _, _ => none
  | _ + 1, _, [] => none
  | f + 1, acc, t :: r => if t.x = [105, 109, 112, 111, 114, 116] then bd (imp1 (acc.length == 16) (t :: r)) fun n ts => imps f (acc ++ [n]) ts else some (.ok acc (t :: r))
section
variable (g : Nat)
def E0 (d : Nat) (ts : List Tok) : Ou Ex := expr g false d ts
def C0 (d : Nat) (e : Ex) (ts : List Tok) : Ou Ex := call (expr g) g d e ts
def B0 (d : Nat) (ts : List Tok) : Ou Sts := blk (E0 g) (C0 g) g g d ts
def mdl (ts : List Tok) : Ou Mo :=
  bd (must [109, 111, 100, 117, 108, 101] false ts) fun _ ts => bd (name false ts) fun n ts => bd (must [59] false ts) fun _ ts => bd (imps g [] ts) fun is ts => bd (dcls (E0 g) (B0 g) g g [] ts) fun ds ts => some (.ok ⟨n, is, ds⟩ ts)
end
/-- All of the text. -/
def whole {α : Type} (m : Ou α) : Option (Option α × Nat × Int) :=
  match m with
  | none => none
  | some (.er p c) => some (none, p, c)
  | some (.ok a [t]) => some (some a, 0, 0)
  | some (.ok _ (t :: _ :: _)) => some (none, t.p, 11)
  | some (.ok _ []) => none
def endT (n : Nat) : Tok := ⟨0, [], 0, 0, n⟩
/-- Of tokens. -/
def parT (ts : List Tok) (n : Nat) : Option (Option Mo × Nat × Int) := whole (mdl (ts.length + 2) (ts ++ [endT n]))
def xprT (ts : List Tok) (n : Nat) : Option (Option Ex × Nat × Int) := whole (expr (ts.length + 2) false 0 (ts ++ [endT n]))
end Pz
end Go.Proofs.YtpkaekokkhecmaaGreatDoor
