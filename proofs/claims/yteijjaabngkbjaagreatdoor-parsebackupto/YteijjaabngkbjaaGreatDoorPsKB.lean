/- PsS PsF PsB PsC PsD PsE PsJ PsK -/
import Derived.Test.YteijjaabngkbjaaGreatDoorLxAll
import Derived.Test.YteijjaabngkbjaaGreatDoorNyAB
set_option maxRecDepth 100000
set_option maxHeartbeats 40000000
set_option linter.unusedVariables false
set_option linter.unusedSimpArgs false
set_option linter.unusedSectionVars false
namespace Go.Proofs.YteijjaabngkbjaaGreatDoor
section
namespace Te
def Exs.app:Exs→Exs→Exs
 | .nil,y=>y
 | .cons h k r,y => .cons h k (r.app y)
def Sts.app:Sts→Sts→Sts
 | .nil,y=>y
 | .cons h e b l r,y => .cons h e b l (r.app y)
theorem Exs.app_len:∀(x y:Exs),(x.app y).len=x.len+y.len
 | .nil,y=>by simp [Exs.app,Exs.len]
 | .cons h k r,y=>by simp only [Exs.app,Exs.len,Exs.app_len r y];omega
theorem Sts.app_len:∀(x y:Sts),(x.app y).len=x.len+y.len
 | .nil,y=>by simp [Sts.app,Sts.len]
 | .cons h e b l r,y=>by simp only [Sts.app,Sts.len,Sts.app_len r y];omega
theorem Exs.app_nil:∀(x:Exs),x.app .nil=x
 | .nil=>rfl
 | .cons h k r=>by simp only [Exs.app,Exs.app_nil r]
theorem Sts.app_nil:∀(x:Sts),x.app .nil=x
 | .nil=>rfl
 | .cons h e b l r=>by simp only [Sts.app,Sts.app_nil r]
theorem Exs.app_assoc:∀(x y z:Exs),(x.app y).app z=x.app (y.app z)
 | .nil,y,z=>rfl
 | .cons h k r,y,z=>by simp only [Exs.app,Exs.app_assoc r y z]
theorem Sts.app_assoc:∀(x y z:Sts),(x.app y).app z=x.app (y.app z)
 | .nil,y,z=>rfl
 | .cons h e b l r,y,z=>by simp only [Sts.app,Sts.app_assoc r y z]
end Te
namespace Pz
open Lx Te
inductive Rs (α:Type) where
 | ok (a:α) (ts:List Tok)
 | er (p:Nat) (c:Int)
abbrev Ou (α:Type):=Option (Rs α)
def bd {α β:Type} (m:Ou α) (k:α→List Tok→Ou β):Ou β :=
 match m with
 | none=>none
 | some (.er p c)=>some (.er p c)
 | some (.ok a ts)=>k a ts
@[simp] theorem bd_none {α β:Type} (k:α→List Tok→Ou β):bd (none:Ou α) k=none:=rfl
@[simp] theorem bd_er {α β:Type} (p:Nat) (c:Int) (k:α→List Tok→Ou β):bd (some (.er p c):Ou α) k=some (.er p c):=rfl
@[simp] theorem bd_ok {α β:Type} (a:α) (ts:List Tok) (k:α→List Tok→Ou β):bd (some (.ok a ts)) k=k a ts:=rfl
abbrev Ex:=EH × Exs
abbrev St:=SH × Exs × Sts × Sts
def must (s:Bs) (fl:Bool):List Tok→Ou Unit
 | []=>none
 | t::r=>if t.x=s then (if fl then some (.er t.p 3) else some (.ok () r)) else some (.er t.p 11)
def has (s:Bs) (fl:Bool):List Tok→Ou Bool
 | []=>none
 | t::r=>if t.x=s then (if fl then some (.er t.p 3) else some (.ok true r)) else some (.ok false (t::r))
def name (fl:Bool):List Tok→Ou Bs
 | []=>none
 | t::r=>if t.k=1 then (if fl then some (.er t.p 3) else some (.ok t.x r)) else some (.er t.p 11)
def opn (s:Bs) (fl:Bool) (d:Nat):List Tok→Ou Unit
 | []=>none
 | t::r=>if t.x=s then (if d=32 then some (.er t.p 13) else if fl then some (.er t.p 3) else some (.ok () r)) else some (.er t.p 11)
def opOf (x:Bs):Int × Nat :=
 if x=[124,124] then (13,1) else if x=[38,38] then (12,2) else if x=[61,61] then (6,3) else if x=[33,61] then (7,3) else if x=[60] then (8,3) else if x=[60,61] then (9,3)
 else if x=[62] then (10,3) else if x=[62,61] then (11,3) else if x=[43] then (1,4) else if x=[45] then (2,4) else if x=[42] then (3,5) else if x=[47] then (4,5) else if x=[37] then (5,5) else (0,0)
def lit (ty b:Int):Ex:=(⟨1,0,[],[],ty,b⟩,.nil)
def one (op:Int) (e:Ex):Ex:=(⟨6,op,[],[],0,0⟩,.cons e.1 e.2 .nil)
def bin (op:Int) (a b:Ex):Ex:=(⟨7,op,[],[],0,0⟩,.cons a.1 a.2 (.cons b.1 b.2 .nil))
def refr (fl:Bool) (ts:List Tok):Ou Ex :=
 bd (name fl ts) fun n ts=>bd (has [46] false ts) fun b ts=>if b then bd (name false ts) fun m ts=>some (.ok (⟨3,0,n,m,0,0⟩,.nil) ts) else some (.ok (⟨2,0,[],n,0,0⟩,.nil) ts)
def callH (h:EH):EH:={ h with kind:=if h.kind=3 then 5 else 4 }
section
variable (E:Bool→Nat→List Tok→Ou Ex)
def ins (fl:Bool) (d:Nat) (ts:List Tok):Ou Ex :=
 bd (opn [40] fl d ts) fun _ ts=>bd (E false (d+1) ts) fun e ts=>bd (must [41] false ts) fun _ ts=>some (.ok e ts)
def rwE (d:Nat):Nat→Exs→List Tok→Ou Exs
 | 0,_,_=>none
 | _+1,_,[]=>none
 | g+1,acc,t::r=>if t.x=[44] then bd (E (acc.len == 8) d r) fun e ts=>rwE d g (acc.app (.cons e.1 e.2 .nil)) ts else some (.ok acc (t::r))
def args (g d:Nat):List Tok→Ou Exs
 | t::u::r=>if t.x=[40]∧u.x=[41] then some (.ok .nil r) else
    bd (opn [40] false d (t::u::r)) fun _ ts=>bd (E false (d+1) ts) fun e ts=>bd (rwE E (d+1) g (.cons e.1 e.2 .nil) ts) fun l ts=>bd (must [41] false ts) fun _ ts=>some (.ok l ts)
 | [t]=>if t.x=[40] then none else some (.er t.p 11)
 | []=>none
def call (g d:Nat) (e:Ex) (ts:List Tok):Ou Ex:=bd (args E g d ts) fun l ts=>some (.ok (callH e.1,l) ts)
def pr (g:Nat) (fl:Bool) (d:Nat):List Tok→Ou Ex
 | []=>none
 | t::r =>
   if t.k=3∨t.k=4 then (if fl then some (.er t.p 3) else some (.ok (lit t.ty t.b) r))
   else if t.k=1 then bd (refr fl (t::r)) fun e ts=>match ts with
    | []=>none
    | u::r'=>if u.x=[40] then call E g d e (u::r') else some (.ok e (u::r'))
   else if t.x=[116,114,117,101] then (if fl then some (.er t.p 3) else some (.ok (lit 3 1) r))
   else if t.x=[102,97,108,115,101] then (if fl then some (.er t.p 3) else some (.ok (lit 3 0) r))
   else if t.x=[105,110,102] then (if fl then some (.er t.p 3) else some (.ok (lit 2 9218868437227405312) r))
   else if t.x=[110,97,110] then (if fl then some (.er t.p 3) else some (.ok (lit 2 9221120237041090561) r))
   else if t.x=[105,110,112,117,116] then (if fl then some (.er t.p 3) else some (.ok (⟨8,0,[],[],0,0⟩,.nil) r))
   else if t.x=[105,110,116] then (if fl then some (.er t.p 3) else bd (ins E false d r) fun e ts=>some (.ok (one 3 e) ts))
   else if t.x=[102,108,111,97,116] then (if fl then some (.er t.p 3) else bd (ins E false d r) fun e ts=>some (.ok (one 4 e) ts))
   else ins E fl d (t::r)
def un (g:Nat):Nat→Bool→Nat→List Tok→Ou Ex
 | 0,_,_,_=>none
 | _+1,_,_,[]=>none
 | f+1,fl,d,t::r =>
   if t.x=[45] then bd (opn [45] fl d (t::r)) fun _ ts=>bd (un g f false (d+1) ts) fun e ts=>some (.ok (one 1 e) ts)
   else if t.x=[33] then bd (opn [33] fl d (t::r)) fun _ ts=>bd (un g f false (d+1) ts) fun e ts=>some (.ok (one 2 e) ts)
   else pr E g fl d (t::r)
def lp (N:List Tok→Ou Ex) (lv:Nat):Nat→Ex→List Tok→Ou Ex
 | 0,_,_=>none
 | _+1,_,[]=>none
 | f+1,e,t::r=>if (opOf t.x).2≠lv then some (.ok e (t::r)) else
    bd (N r) fun e2 ts=>if lv=3 then some (.ok (bin (opOf t.x).1 e e2) ts) else lp N lv f (bin (opOf t.x).1 e e2) ts
def two (g:Nat):Nat→Bool→Nat→List Tok→Ou Ex
 | 0,fl,d,ts=>un E g g fl d ts
 | n+1,fl,d,ts=>bd (two g n fl d ts) fun e ts=>lp (two g n false d) (5 - n) g e ts
end
def expr:Nat→Bool→Nat→List Tok→Ou Ex
 | 0,_,_,_=>none
 | f+1,fl,d,ts=>two (expr f) (f+1) 5 fl d ts
section
variable (E:Nat→List Tok→Ou Ex) (C:Nat→Ex→List Tok→Ou Ex)
def lone (d:Nat) (ts:List Tok):Ou Exs:=bd (E d ts) fun e ts=>some (.ok (.cons e.1 e.2 .nil) ts)
def ended (kind:Int) (n:Bs) (e:Exs) (ts:List Tok):Ou St:=bd (must [59] false ts) fun _ ts=>some (.ok (⟨kind,n⟩,e,.nil,.nil) ts)
def asg (d:Nat) (kind:Int) (n:Bs) (ts:List Tok):Ou St:=bd (must [61] false ts) fun _ ts=>bd (lone E d ts) fun e ts=>ended kind n e ts
def named (d:Nat) (ts:List Tok):Ou St:=bd (refr false ts) fun e ts=>match ts with
 | []=>none
 | u::r=>if e.1.kind=2∧u.x=[61] then asg E d 2 e.1.name (u::r) else bd (C d e (u::r)) fun c ts=>ended 9 [] (.cons c.1 c.2 .nil) ts
variable (B:Nat→List Tok→Ou Sts)
def branch (d:Nat) (ts:List Tok):Ou St:=bd (lone E d ts) fun e ts=>bd (B d ts) fun b ts=>bd (has [101,108,115,101] false ts) fun y ts =>
 if y then bd (B d ts) fun l ts=>some (.ok (⟨3,[]⟩,e,b,l) ts) else some (.ok (⟨3,[]⟩,e,b,.nil) ts)
def while_ (d:Nat) (ts:List Tok):Ou St:=bd (lone E d ts) fun e ts=>bd (B d ts) fun b ts=>some (.ok (⟨4,[]⟩,e,b,.nil) ts)
def returned (d:Nat):List Tok→Ou St
 | []=>none
 | t::r=>if t.x=[59] then ended 5 [] .nil (t::r) else bd (lone E d (t::r)) fun e ts=>ended 5 [] e ts
def tried (d:Nat) (ts:List Tok):Ou St:=bd (B d ts) fun b ts=>bd (must [99,97,116,99,104] false ts) fun _ ts=>bd (name false ts) fun n ts=>bd (B d ts) fun l ts=>some (.ok (⟨8,n⟩,.nil,b,l) ts)
def stm (d:Nat):List Tok→Ou St
 | []=>none
 | t::r =>
   if t.k=1 then named E C d (t::r)
   else if t.x=[108,101,116] then bd (name false r) fun n ts=>asg E d 1 n ts
   else if t.x=[105,102] then branch E B d r
   else if t.x=[119,104,105,108,101] then while_ E B d r
   else if t.x=[114,101,116,117,114,110] then returned E d r
   else if t.x=[115,104,111,119] then bd (lone E d r) fun e ts=>ended 6 [] e ts
   else if t.x=[102,97,105,108] then bd (lone E d r) fun e ts=>ended 7 [] e ts
   else if t.x=[116,114,121] then tried B d r
   else some (.er t.p 11)
end
def sts (S:List Tok→Ou St):Nat→Sts→List Tok→Ou Sts
 | 0,_,_=>none
 | _+1,_,[]=>none
 | g+1,acc,t::r=>if t.x=[125] then some (.ok acc (t::r)) else bd (S (t::r)) fun s ts=>sts S g (acc.app (.cons s.1 s.2.1 s.2.2.1 s.2.2.2 .nil)) ts
def blk (E:Nat→List Tok→Ou Ex) (C:Nat→Ex→List Tok→Ou Ex) (g:Nat):Nat→Nat→List Tok→Ou Sts
 | 0,_,_=>none
 | f+1,d,ts=>bd (opn [123] false d ts) fun _ ts=>bd (sts (stm E C (blk E C g f) (d+1)) g .nil ts) fun l ts=>bd (must [125] false ts) fun _ ts=>some (.ok l ts)
def typ:List Tok→Ou Int
 | []=>none
 | t::r=>if t.x=[105,110,116] then some (.ok 1 r) else if t.x=[102,108,111,97,116] then some (.ok 2 r) else if t.x=[98,111,111,108] then some (.ok 3 r) else some (.er t.p 11)
def par1 (fl:Bool) (ts:List Tok):Ou Pa:=bd (name fl ts) fun n ts=>bd (must [58] false ts) fun _ ts=>bd (typ ts) fun t ts=>some (.ok ⟨n,t⟩ ts)
def rwP:Nat→List Pa→List Tok→Ou (List Pa)
 | 0,_,_=>none
 | _+1,_,[]=>none
 | g+1,acc,t::r=>if t.x=[44] then bd (par1 (acc.length == 8) r) fun p ts=>rwP g (acc++[p]) ts else some (.ok acc (t::r))
section
variable (E:Nat→List Tok→Ou Ex) (B:Nat→List Tok→Ou Sts) (g:Nat)
def holder (kind:Int) (ex:Bool) (ts:List Tok):Ou De :=
 bd (name false ts) fun n ts=>bd (must [58] false ts) fun _ ts=>bd (typ ts) fun t ts=>bd (must [61] false ts) fun _ ts=>bd (lone E 0 ts) fun e ts=>bd (must [59] false ts) fun _ ts=>some (.ok ⟨kind,ex,n,t,[],e,.nil⟩ ts)
def params:List Tok→Ou (List Pa)
 | []=>none
 | t::r=>if t.x=[41] then some (.ok [] (t::r)) else bd (par1 false (t::r)) fun p ts=>rwP g [p] ts
def result (ts:List Tok):Ou Int:=bd (has [58] false ts) fun y ts=>if y then typ ts else some (.ok 0 ts)
def fnc (ex:Bool) (ts:List Tok):Ou De :=
 bd (name false ts) fun n ts=>bd (must [40] false ts) fun _ ts=>bd (params g ts) fun ps ts=>bd (must [41] false ts) fun _ ts=>bd (result ts) fun t ts=>bd (B 0 ts) fun b ts=>some (.ok ⟨3,ex,n,t,ps,.nil,b⟩ ts)
def dcl2 (ex fl:Bool):List Tok→Ou De
 | []=>none
 | t::r=>if t.x=[99,111,110,115,116] then (if fl then some (.er t.p 3) else holder E 1 ex r)
   else if ex=false∧t.x=[118,97,114] then (if fl then some (.er t.p 3) else holder E 2 ex r)
   else if t.x=[102,110] then (if fl then some (.er t.p 3) else fnc B g ex r) else some (.er t.p 11)
def dcl (fl:Bool):List Tok→Ou De
 | []=>none
 | t::r=>if t.x=[101,120,112,111,114,116] then (if fl then some (.er t.p 3) else dcl2 E B g true false r) else dcl2 E B g false fl (t::r)
def dcls:Nat→List De→List Tok→Ou (List De)
 | 0,_,_=>none
 | _+1,_,[]=>none
 | _+1,acc,[t]=>some (.ok acc [t])
 | f+1,acc,t::u::r=>bd (dcl E B g (acc.length == 64) (t::u::r)) fun d ts=>dcls f (acc++[d]) ts
end
def imp1 (fl:Bool) (ts:List Tok):Ou Bs:=bd (must [105,109,112,111,114,116] fl ts) fun _ ts=>bd (name false ts) fun n ts=>bd (must [59] false ts) fun _ ts=>some (.ok n ts)
def imps:Nat→List Bs→List Tok→Ou (List Bs)
 | 0,_,_=>none
 | _+1,_,[]=>none
 | f+1,acc,t::r=>if t.x=[105,109,112,111,114,116] then bd (imp1 (acc.length == 16) (t::r)) fun n ts=>imps f (acc++[n]) ts else some (.ok acc (t::r))
section
variable (g:Nat)
def E0 (d:Nat) (ts:List Tok):Ou Ex:=expr g false d ts
def C0 (d:Nat) (e:Ex) (ts:List Tok):Ou Ex:=call (expr g) g d e ts
def B0 (d:Nat) (ts:List Tok):Ou Sts:=blk (E0 g) (C0 g) g g d ts
def mdl (ts:List Tok):Ou Mo :=
 bd (must [109,111,100,117,108,101] false ts) fun _ ts=>bd (name false ts) fun n ts=>bd (must [59] false ts) fun _ ts=>bd (imps g [] ts) fun is ts=>bd (dcls (E0 g) (B0 g) g g [] ts) fun ds ts=>some (.ok ⟨n,is,ds⟩ ts)
end
def whole {α:Type} (m:Ou α):Option (Option α × Nat × Int) :=
 match m with
 | none=>none
 | some (.er p c)=>some (none,p,c)
 | some (.ok a [t])=>some (some a,0,0)
 | some (.ok _ (t::_::_))=>some (none,t.p,11)
 | some (.ok _ [])=>none
def endT (n:Nat):Tok:=⟨0,[],0,0,n⟩
def parT (ts:List Tok) (n:Nat):Option (Option Mo × Nat × Int):=whole (mdl (ts.length+2) (ts++[endT n]))
def xprT (ts:List Tok) (n:Nat):Option (Option Ex × Nat × Int):=whole (expr (ts.length+2) false 0 (ts++[endT n]))
end Pz
end
section
namespace Pz
open Lx Te
def G (ts:List Tok):Prop:=∃b n,ts=b++[endT n]∧∀t∈b,t.x≠[]
def Fn {α:Type} (n:Nat) (m:Ou α):Prop :=
 match m with
 | none=>False
 | some (.er _ _)=>True
 | some (.ok _ ts)=>G ts∧ts.length≤n
theorem Fn.er {α:Type} {n:Nat} (p:Nat) (c:Int):Fn n (some (.er p c):Ou α):=trivial
theorem Fn.ok {α:Type} {n:Nat} {a:α} {ts:List Tok} (h:G ts) (hn:ts.length≤n):Fn n (some (.ok a ts)):=⟨h,hn⟩
theorem Fn.bd {α β:Type} {n n':Nat} {m:Ou α} {k:α→List Tok→Ou β} (h:Fn n m) (hk:∀a ts,G ts→ts.length≤n→Fn n' (k a ts)):Fn n' (bd m k):=by
 match m,h with
 | some (.er p c),_=>exact trivial
 | some (.ok a ts),⟨h1,h2⟩=>exact hk a ts h1 h2
theorem Fn.mono {α:Type} {n n':Nat} {m:Ou α} (h:Fn n m) (hn:n≤n'):Fn n' m:=by
 match m,h with
 | some (.er p c),_=>exact trivial
 | some (.ok a ts),⟨h1,h2⟩=>exact ⟨h1,Nat.le_trans h2 hn⟩
def FE (E:Bool→Nat→List Tok→Ou Ex) (n:Nat):Prop:=∀fl d ts,G ts→ts.length<n→Fn (ts.length - 1) (E fl d ts)
section
variable {E:Bool→Nat→List Tok→Ou Ex} {n:Nat} (hE:FE E n)
include hE
end
def FB (B:Nat→List Tok→Ou Sts) (n:Nat):Prop:=∀d ts,G ts→ts.length<n→Fn (ts.length - 1) (B d ts)
section
variable {E:Nat→List Tok→Ou Ex} {n:Nat} (hE:∀d ts,G ts→ts.length<n→Fn (ts.length - 1) (E d ts))
include hE
variable {C:Nat→Ex→List Tok→Ou Ex} (hC:∀d e ts,G ts→ts.length<n→Fn (ts.length - 1) (C d e ts))
include hC
variable {B:Nat→List Tok→Ou Sts} {k:Nat} (hB:FB B k)
include hB
end
section
variable {E:Nat→List Tok→Ou Ex} {n:Nat} (hE:∀d ts,G ts→ts.length<n→Fn (ts.length - 1) (E d ts))
variable {B:Nat→List Tok→Ou Sts} (hB:FB B n) {g:Nat} (hng:n≤g+1)
include hE hB hng
end
end Pz
end
section
namespace Pz
open Lx Te
open Go.RowKit (wrap64)
def tW (x:Bs):Tok:=⟨2,x,0,0,0⟩
def tM (x:Bs):Tok:=⟨5,x,0,0,0⟩
def tN (x:Bs):Tok:=⟨1,x,0,0,0⟩
def mk2 (op:Int):Bs :=
 if op=1 then [43] else if op=2 then [45] else if op=3 then [42] else if op=4 then [47] else if op=5 then [37] else if op=6 then [61,61] else if op=7 then [33,61] else if op=8 then [60] else if op=9 then [60,61]
 else if op=10 then [62] else if op=11 then [62,61] else if op=12 then [38,38] else [124,124]
section
variable (tx:Int→Int→Bs)
def tL (vt vb:Int):Tok :=
 if vt=1 then ⟨3,tx 1 vb,1,vb,0⟩ else if vt=2 then (if vb=9218868437227405312 then tW [105,110,102] else if vb=9221120237041090561 then tW [110,97,110] else ⟨4,tx 2 vb,2,vb,0⟩)
 else if vb=0 then tW [102,97,108,115,101] else tW [116,114,117,101]
def kP (h:EH):List Tok :=
 if h.kind=1 then [tL tx h.vt h.vb] else if h.kind=2 then [tN h.name] else if h.kind=3 then [tN h.mod,tM [46],tN h.name]
 else if h.kind=4 then [tN h.name,tM [40]] else if h.kind=5 then [tN h.mod,tM [46],tN h.name,tM [40]]
 else if h.kind=6 then (if h.op=1 then [tM [45]] else if h.op=2 then [tM [33]] else if h.op=3 then [tW [105,110,116],tM [40]] else [tW [102,108,111,97,116],tM [40]])
 else if h.kind=7 then [] else [tW [105,110,112,117,116]]
def kPo (h:EH):List Tok:=if h.kind=4∨h.kind=5 then [tM [41]] else if h.kind=6∧¬(h.op=1∨h.op=2) then [tM [41]] else []
def kSe (h:EH):List Tok:=if h.kind=7 then [tM (mk2 h.op)] else [tM [44]]
def kPar (b:Bool) (l:List Tok):List Tok:=if b then tM [40]::(l++[tM [41]]) else l
def kK (p:EH):Bool→Exs→List Tok
 | _,.nil=>[]
 | first,.cons h k r=>(if first then [] else kSe p)++kPar (decide (level h<kidL p first)) (kP tx h++kK h true k++kPo h)++kK p false r
def kB (h:EH) (k:Exs):List Tok:=kP tx h++kK tx h true k++kPo h
def kA (h:EH) (k:Exs) (least:Int):List Tok:=kPar (decide (level h<least)) (kB tx h k)
end
def Fin (lv:Nat) (rest:List Tok):Prop:=∃t r,rest=t::r∧t.x≠[46]∧t.x≠[40]∧(opOf t.x).2<lv
section
variable (rn:Bs→Int) (cn:Int→Int)
def RX (h:EH) (k:Exs):Prop:=errH rn cn h k.len=0∧errL rn cn k=0
end
def NnX:Exs→Prop
 | .nil=>True
 | .cons h k r=>0≤h.vb∧NnX k∧NnX r
def dB (h:EH) (k:Exs) (a:Int):Int:=dK h k true a a
theorem orE_0 {a b:Int} (h:orE a b=0):a=0∧b=0:=by
 unfold orE at h
 split at h
 ·exact ⟨by assumption,h⟩
 ·exact absurd h (by assumption)
theorem RX_kid {rn:Bs→Int} {cn:Int→Int} {h:EH} {k r:Exs} (hr:errL rn cn (.cons h k r)=0):RX rn cn h k∧errL rn cn r=0:=by
 rw [errL] at hr
 obtain ⟨a,b⟩:=orE_0 hr
 obtain ⟨c,d⟩:=orE_0 a
 exact ⟨⟨c,d⟩,b⟩
theorem dK_acc (p:EH):∀(k:Exs) (first:Bool) (a acc:Int),acc≤dK p k first a acc
 | .nil,_,_,acc=>Int.le_refl _
 | .cons h k r,first,a,acc=>by
   rw [dK]
   have:=dK_acc p r false a (max acc (dK h k true (inAt h (kidL p first) (wrap64 (a+kidD p))) (inAt h (kidL p first) (wrap64 (a+kidD p)))))
   omega
theorem wrap_sm {a:Int} (h0:0≤a) (h1:a≤100):wrap64 a=a:=by unfold wrap64;omega
theorem kidD_r (p:EH):0≤kidD p∧kidD p≤1:=by
 unfold kidD
 repeat' split
 all_goals omega
theorem dK_cons {p h:EH} {k r:Exs} {first:Bool} {a acc:Int} (h0:0≤a) (h1:a≤32) (H:dK p (.cons h k r) first a acc≤32):a+kidD p≤32∧dX h k (kidL p first) (a+kidD p)≤32∧∃acc',dK p r false a acc'≤32:=by
 rw [dK] at H
 have hk:=kidD_r p
 have h2:=dK_acc p r false a (max acc (dK h k true (inAt h (kidL p first) (wrap64 (a+kidD p))) (inAt h (kidL p first) (wrap64 (a+kidD p)))))
 rw [wrap_sm (by omega) (by omega)] at *
 have h3:=dK_acc h k true (inAt h (kidL p first) (a+kidD p)) (inAt h (kidL p first) (a+kidD p))
 refine ⟨?_,?_,_,H⟩
 ·unfold inAt at h3 h2 H
  split at h3
  ·rename_i hc
   rw [if_pos hc,wrap_sm (by omega) (by omega)] at *
   omega
  ·rename_i hc
   simp only [if_neg hc] at *
   omega
 ·unfold dX
  omega
theorem dX_par {h:EH} {k:Exs} {least a:Int} (h0:0≤a) (h1:a≤32) (H:dX h k least a≤32) (hl:level h<least):a+1≤32∧dB h k (a+1)≤32:=by
 unfold dX inAt at H
 rw [if_pos hl,wrap_sm (by omega) (by omega)] at H
 have:=dK_acc h k true (a+1) (a+1)
 exact ⟨by omega,H⟩
theorem dX_no {h:EH} {k:Exs} {least a:Int} (H:dX h k least a≤32) (hl:¬level h<least):dB h k a≤32:=by
 unfold dX inAt at H
 rw [if_neg hl] at H
 exact H
theorem dX_of {h:EH} {k:Exs} {least a:Int} (H:dB h k a≤32) (hl:¬level h<least):dX h k least a≤32:=by
 unfold dX inAt
 rw [if_neg hl]
 exact H
theorem two_up {E:Bool→Nat→List Tok→Ou Ex} {g d:Nat} {fl:Bool} {ts rest:List Tok} {e:Ex} (hg:0<g) {m:Nat} (H:two E g m fl d ts=some (.ok e rest)):∀(n:Nat),m≤n→n≤5→Fin (6 - n) rest→two E g n fl d ts=some (.ok e rest):=by
 intro n
 induction n with
 | zero=>intro h1 _ _;cases m with
   | zero=>exact H
   | succ m=>omega
 | succ n ih =>
   intro h1 h2 hF
   by_cases hm:m=n+1
   ·subst hm;exact H
   ·obtain ⟨t,r,rfl,hx1,hx2,hx3⟩:=hF
    rw [two,ih (by omega) (by omega) ⟨t,r,rfl,hx1,hx2,by omega⟩,bd_ok]
    obtain ⟨g',rfl⟩:∃g',g=g'+1:=⟨g - 1,by omega⟩
    rw [lp,if_pos (by omega)]
structure Law (rn:Bs→Int) (cn:Int→Int) (tx:Int→Int→Bs):Prop where
 nm:∀x,rn x=0→∃c r,x=c::r∧ltr c=true
 int:∀vb,0≤vb→∃c r,tx 1 vb=c::r∧dgt c=true
 flo:∀vb,0≤vb→litOk cn 2 vb=true→vb≠9218868437227405312→vb≠9221120237041090561→∃c r,tx 2 vb=c::r∧dgt c=true
theorem ltr_no {c:UInt8} (h:ltr c=true):c≠45∧c≠33∧c≠40∧c≠41∧c≠46∧c≠44:=by
 refine ⟨?_,?_,?_,?_,?_,?_⟩<;>(intro e;subst e;revert h;decide)
theorem dgt_no {c:UInt8} (h:dgt c=true):c≠45∧c≠33∧c≠40∧c≠41∧c≠46∧c≠44:=by
 refine ⟨?_,?_,?_,?_,?_,?_⟩<;>(intro e;subst e;revert h;decide)
theorem un_pr {E:Bool→Nat→List Tok→Ou Ex} {g f d:Nat} {fl:Bool} {t:Tok} {r:List Tok} (h1:t.x≠[45]) (h2:t.x≠[33]):un E g (f+1) fl d (t::r)=pr E g fl d (t::r):=by
 rw [un,if_neg h1,if_neg h2]
theorem len0 {k:Exs} (h:k.len=0):k = .nil:=by
 cases k with
 | nil=>rfl
 | cons _ _ _=>simp [Exs.len] at h
theorem level_r (h:EH):1≤level h∧level h≤7:=by
 have:1≤lv2 h.op∧lv2 h.op≤7:=by
  unfold lv2
  repeat' split
  all_goals omega
 unfold level
 repeat' split
 all_goals omega
section
variable {rn:Bs→Int} {cn:Int→Int} {tx:Int→Int→Bs} (L:Law rn cn tx)
def KidU (tx:Int→Int→Bs) (h:EH) (k:Exs):Prop:=∀(f g f' d:Nat) (rest:List Tok),(kA tx h k 6++rest).length≤f+1→(kA tx h k 6++rest).length≤g→(kA tx h k 6++rest).length≤f'→d≤32→dX h k 6 (d:Int)≤32→Fin 6 rest →
 un (expr f) g f' false d (kA tx h k 6++rest)=some (.ok (h,k) rest)
def Kid (tx:Int→Int→Bs) (h:EH) (k:Exs):Prop:=∀(f g d n:Nat) (rest:List Tok),n≤5→(kA tx h k ((6 - n:Nat):Int)++rest).length≤f+1→(kA tx h k ((6 - n:Nat):Int)++rest).length≤g→d≤32→dX h k ((6 - n:Nat):Int) (d:Int)≤32→Fin (6 - n) rest →
 two (expr f) g n false d (kA tx h k ((6 - n:Nat):Int)++rest)=some (.ok (h,k) rest)
def Chn (tx:Int→Int→Bs) (h:EH) (k:Exs):Prop:=∀(f g d m:Nat) (rest:List Tok),m≤4→m≠2→(kA tx h k ((5 - m:Nat):Int)++rest).length≤f+1→(kA tx h k ((5 - m:Nat):Int)++rest).length≤g→d≤32→dX h k ((5 - m:Nat):Int) (d:Int)≤32→Fin (6 - m) rest →
 ∃g',rest.length≤g'∧two (expr f) g (m+1) false d (kA tx h k ((5 - m:Nat):Int)++rest)=lp (two (expr f) g m false d) (5 - m) g' (h,k) rest
theorem expr_kid {h:EH} {k:Exs} (hk:Kid tx h k) (f d:Nat) (rest:List Tok) (hN:(kB tx h k++rest).length<f) (hd:d≤32) (hD:dB h k (d:Int)≤32) (hF:Fin 1 rest):expr f false d (kB tx h k++rest)=some (.ok (h,k) rest):=by
 obtain ⟨f,rfl⟩:∃g,f=g+1:=⟨f - 1,by omega⟩
 have hl:=level_r h
 have hA:kA tx h k ((6 - 5:Nat):Int)=kB tx h k:=by
  unfold kA kPar
  rw [if_neg (by simp;omega)]
 have:=hk f (f+1) d 5 rest (by omega) (by rw [hA];omega) (by rw [hA];omega) hd (dX_of hD (by show ¬level h<((6 - 5:Nat):Int);omega)) hF
 rw [hA] at this
 rw [expr]
 exact this
theorem fin_t (t:Tok) (r:List Tok) (lv:Nat) (h1:t.x≠[46]) (h2:t.x≠[40]) (h3:(opOf t.x).2<lv):Fin lv (t::r):=⟨t,r,rfl,h1,h2,h3⟩
theorem rw_args (rn:Bs→Int) (cn:Int→Int) (p:EH) (hp:p.kind=4∨p.kind=5) (f d:Nat) (hd:d+1≤32) (rest:List Tok):∀(r acc:Exs) (g:Nat) (a':Int),errL rn cn r=0→NnX r→(∀h k,RX rn cn h k→0≤h.vb→NnX k→k.size<r.size→Kid tx h k)→acc.len+r.len≤8→1≤acc.len→(kK tx p false r++tM [41]::rest).length≤f→(kK tx p false r++tM [41]::rest).length≤g→dK p r false (d:Int) a'≤32 →
 rwE (expr f) (d+1) g acc (kK tx p false r++tM [41]::rest)=some (.ok (acc.app r) (tM [41]::rest)):=by
 intro r
 induction r with
 | nil =>
   intro acc g a' _ _ _ _ _ _ hg _
   simp only [kK,List.nil_append] at hg ⊢
   obtain ⟨g,rfl⟩:∃x,g=x+1:=⟨g - 1,by simp only [List.length_cons] at hg;omega⟩
   rw [rwE,if_neg (by decide),Exs.app_nil]
 | cons h k r _ ih =>
   intro acc g a' hL hN hK hlen hacc hf hg hD
   obtain ⟨hRx,hLr⟩:=RX_kid hL
   have hl:=level_r h
   have kL:∀b,kidL p b=1:=by intro b;unfold kidL;rcases hp with e | e<;>simp [e]
   have kS:kSe p=[tM [44]]:=by unfold kSe;rcases hp with e | e<;>simp [e]
   have kD:kidD p=1:=by unfold kidD;rcases hp with e | e<;>simp [e]
   have hT:kK tx p false (.cons h k r)++tM [41]::rest=tM [44]::(kB tx h k++(kK tx p false r++tM [41]::rest)):=by
    rw [kK,kL,kS,if_neg (by simp),kPar,if_neg (by simp;omega)]
    simp [kB]
   rw [hT] at hf hg ⊢
   obtain ⟨g,rfl⟩:∃x,g=x+1:=⟨g - 1,by simp only [List.length_cons] at hg;omega⟩
   obtain ⟨d1,d2,a2,d3⟩:=dK_cons (by omega) (by omega) hD
   rw [kL,kD] at d2
   have hF:Fin 1 (kK tx p false r++tM [41]::rest):=by
    cases r with
    | nil=>simp only [kK,List.nil_append];exact fin_t _ _ _ (by decide) (by decide) (by decide)
    | cons h' k' r'=>rw [kK,kS,if_neg (by simp)];simp only [List.cons_append,List.append_assoc];exact fin_t _ _ _ (by decide) (by decide) (by decide)
   simp only [List.length_cons,Exs.len] at hf hg hlen
   rw [rwE,if_pos (by rfl),show (acc.len == 8)=false by simp;omega,expr_kid (hK h k hRx hN.1 hN.2.1 (by simp only [Exs.size];omega)) f (d+1) _ (by omega) hd (dX_no d2 (by omega)) hF,bd_ok]
   rw [ih (acc.app (.cons h k .nil)) g a2 hLr hN.2.2 (fun h k r1 r2 r3 hs=>hK h k r1 r2 r3 (by simp only [Exs.size];omega)) (by rw [Exs.app_len];simp only [Exs.len];omega) (by rw [Exs.app_len];omega) (by simp only [List.length_append] at hf ⊢;omega) (by simp only [List.length_append] at hg ⊢;omega) d3]
   rw [Exs.app_assoc]
   rfl
end
end Pz
end
section
namespace Pz
open Lx Te
open Go.RowKit (wrap64)
section
variable {rn:Bs→Int} {cn:Int→Int} {tx:Int→Int→Bs} (L:Law rn cn tx)
include L
theorem fits_of {h:EH} {k:Exs} (hR:RX rn cn h k):fitsE cn h k.len=true∧nameE rn h=0∧k.len≤8∧errL rn cn k=0:=by
 obtain ⟨h1,h2⟩:=hR
 unfold errH at h1
 obtain ⟨a,b⟩:=orE_0 h1
 obtain ⟨c,d⟩:=orE_0 b
 refine ⟨?_,c,?_,h2⟩
 ·by_cases e:fitsE cn h k.len=true
  ·exact e
  ·rw [if_neg e] at a;omega
 ·by_cases e:8<k.len
  ·rw [if_pos e] at d;omega
  ·omega
theorem b_lit (h:EH) (k:Exs) (hR:RX rn cn h k) (h0':0≤h.vb) (hk:h.kind=1) (E:Bool→Nat→List Tok→Ou Ex) (g f' d:Nat) (hf:0<f') (rest:List Tok):un E g f' false d (kB tx h k++rest)=some (.ok (h,k) rest):=by
 obtain ⟨hfit,_,_,_⟩:=fits_of L hR
 obtain ⟨kind,op,mod,name,vt,vb⟩:=h
 simp only at hk
 subst hk
 obtain ⟨f',rfl⟩:∃x,f'=x+1:=⟨f' - 1,by omega⟩
 simp only [fitsE,if_pos,Bool.and_eq_true,decide_eq_true_eq] at hfit
 obtain ⟨hl,rfl,rfl,rfl,h0⟩:=hfit
 obtain rfl:=len0 h0
 have hT:kB tx ⟨1,0,[],[],vt,vb⟩ .nil++rest=tL tx vt vb::rest:=by simp [kB,kP,kK,kPo]
 rw [hT]
 unfold tL
 by_cases v1:vt=1
 ·subst v1
  obtain ⟨c,r,e,hc⟩:=L.int vb h0'
  have hn:=dgt_no hc
  rw [if_pos rfl,un_pr (by simp only;rw [e];intro x;cases x;exact hn.1 rfl) (by simp only;rw [e];intro x;cases x;exact hn.2.1 rfl),pr,if_pos (by simp)]
  rfl
 ·by_cases v2:vt=2
  ·subst v2
   rw [if_neg (by decide),if_pos rfl]
   by_cases e1:vb=9218868437227405312
   ·subst e1
    rw [if_pos rfl,un_pr (by decide) (by decide),pr,if_neg (by decide),if_neg (by decide),if_neg (by decide),if_neg (by decide),if_pos (by decide)]
    rfl
   ·rw [if_neg e1]
    by_cases e2:vb=9221120237041090561
    ·subst e2
     rw [if_pos rfl,un_pr (by decide) (by decide),pr,if_neg (by decide),if_neg (by decide),if_neg (by decide),if_neg (by decide),if_neg (by decide),if_pos (by decide)]
     rfl
    ·obtain ⟨c,r,e,hc⟩:=L.flo vb h0' hl e1 e2
     have hn:=dgt_no hc
     rw [if_neg e2,un_pr (by simp only;rw [e];intro x;cases x;exact hn.1 rfl) (by simp only;rw [e];intro x;cases x;exact hn.2.1 rfl),pr,if_pos (by simp)]
     rfl
  ·have v3:vt=3∧vb≤1:=by
    unfold litOk at hl
    rw [if_neg v1,if_neg v2] at hl
    by_cases e:vt=3
    ·rw [if_pos e] at hl
     exact ⟨e,by simpa using hl⟩
    ·rw [if_neg e] at hl;cases hl
   obtain ⟨rfl,hv⟩:=v3
   rw [if_neg (by decide),if_neg (by decide)]
   by_cases e0:vb=0
   ·subst e0
    rw [if_pos rfl,un_pr (by decide) (by decide),pr,if_neg (by decide),if_neg (by decide),if_neg (by decide),if_pos (by decide)]
    rfl
   ·rw [if_neg e0,un_pr (by decide) (by decide),pr,if_neg (by decide),if_neg (by decide),if_pos (by decide)]
    obtain rfl:vb=1:=by simp only at h0';omega
    rfl
theorem nm_no {x:Bs} (h:rn x=0):x≠[45]∧x≠[33]∧x≠[41]:=by
 obtain ⟨c,r,rfl,hc⟩:=L.nm x h
 have hn:=ltr_no hc
 refine ⟨?_,?_,?_⟩<;>(intro e;cases e)
 ·exact hn.1 rfl
 ·exact hn.2.1 rfl
 ·exact hn.2.2.2.1 rfl
theorem b_input (h:EH) (k:Exs) (hR:RX rn cn h k) (hk:h.kind=8) (E:Bool→Nat→List Tok→Ou Ex) (g f' d:Nat) (hf:0<f') (rest:List Tok):un E g f' false d (kB tx h k++rest)=some (.ok (h,k) rest):=by
 obtain ⟨hfit,_,_,_⟩:=fits_of L hR
 obtain ⟨kind,op,mod,name,vt,vb⟩:=h
 simp only at hk
 subst hk
 obtain ⟨f',rfl⟩:∃x,f'=x+1:=⟨f' - 1,by omega⟩
 simp [fitsE] at hfit
 obtain ⟨rfl,rfl,rfl,rfl,rfl,h0⟩:=hfit
 obtain rfl:=len0 h0
 have hT:kB tx ⟨8,0,[],[],0,0⟩ .nil++rest=tW [105,110,112,117,116]::rest:=by simp [kB,kP,kK,kPo]
 rw [hT,un_pr (by decide) (by decide),pr,if_neg (by decide),if_neg (by decide),if_neg (by decide),if_neg (by decide),if_neg (by decide),if_neg (by decide),if_pos (by decide)]
 rfl
theorem b_name (h:EH) (k:Exs) (hR:RX rn cn h k) (hk:h.kind=2) (E:Bool→Nat→List Tok→Ou Ex) (g f' d:Nat) (hf:0<f') (rest:List Tok) (hF:Fin 6 rest):un E g f' false d (kB tx h k++rest)=some (.ok (h,k) rest):=by
 obtain ⟨hfit,hnm,_,_⟩:=fits_of L hR
 obtain ⟨kind,op,mod,name,vt,vb⟩:=h
 simp only at hk
 subst hk
 obtain ⟨f',rfl⟩:∃x,f'=x+1:=⟨f' - 1,by omega⟩
 simp [fitsE] at hfit
 obtain ⟨rfl,rfl,rfl,rfl,h0⟩:=hfit
 obtain rfl:=len0 h0
 have hn:=nm_no L (show rn name=0 by simpa [nameE] using hnm)
 obtain ⟨t,r,rfl,t1,t2,_⟩:=hF
 have hT:kB tx ⟨2,0,[],name,0,0⟩ .nil++t::r=tN name::t::r:=by simp [kB,kP,kK,kPo]
 rw [hT,un_pr hn.1 hn.2.1,pr,if_neg (by simp [tN]),if_pos (by rfl),refr,Pz.name,if_pos (by rfl),if_neg (by decide),bd_ok,has,if_neg t1,bd_ok]
 simp only [Bool.false_eq_true,if_false,bd_ok]
 rw [if_neg t2]
 rfl
theorem b_far (h:EH) (k:Exs) (hR:RX rn cn h k) (hk:h.kind=3) (E:Bool→Nat→List Tok→Ou Ex) (g f' d:Nat) (hf:0<f') (rest:List Tok) (hF:Fin 6 rest):un E g f' false d (kB tx h k++rest)=some (.ok (h,k) rest):=by
 obtain ⟨hfit,hnm,_,_⟩:=fits_of L hR
 obtain ⟨kind,op,mod,name,vt,vb⟩:=h
 simp only at hk
 subst hk
 obtain ⟨f',rfl⟩:∃x,f'=x+1:=⟨f' - 1,by omega⟩
 simp [fitsE] at hfit
 obtain ⟨rfl,rfl,rfl,h0⟩:=hfit
 obtain rfl:=len0 h0
 have hm:orE (rn mod) (rn name)=0:=by simpa [nameE] using hnm
 have hn:=nm_no L (orE_0 hm).1
 obtain ⟨t,r,rfl,t1,t2,_⟩:=hF
 have hT:kB tx ⟨3,0,mod,name,0,0⟩ .nil++t::r=tN mod::tM [46]::tN name::t::r:=by simp [kB,kP,kK,kPo]
 rw [hT,un_pr hn.1 hn.2.1,pr,if_neg (by simp [tN]),if_pos (by rfl),refr,Pz.name,if_pos (by rfl),if_neg (by decide),bd_ok,has,if_pos (by rfl),if_neg (by decide),bd_ok]
 simp only [if_true]
 rw [Pz.name,if_pos (by rfl),if_neg (by decide),bd_ok,bd_ok]
 simp only []
 rw [if_neg t2]
 rfl
theorem head_ok:∀(n:Nat) (h:EH) (k:Exs),k.size<n→RX rn cn h k→0≤h.vb→NnX k→∃t r,kB tx h k=t::r∧t.x≠[41]:=by
 intro n
 induction n with
 | zero=>intro h k hn;omega
 | succ n ih =>
   intro h k hs hR h0 hN
   obtain ⟨hfit,hnm,_,hL⟩:=fits_of L hR
   have hK:h.kind=1∨h.kind=2∨h.kind=3∨h.kind=4∨h.kind=5∨h.kind=6∨h.kind=7∨h.kind=8:=by
    unfold fitsE at hfit
    repeat' split at hfit
    all_goals first | omega | cases hfit
   rcases hK with e | e | e | e | e | e | e | e
   ·refine ⟨tL tx h.vt h.vb,kK tx h true k++kPo h,by simp [kB,kP,e],?_⟩
    unfold tL
    have hl:litOk cn h.vt h.vb=true:=by simp [fitsE,e] at hfit;exact hfit.1
    by_cases v1:h.vt=1
    ·rw [if_pos v1]
     obtain ⟨c,r,e',hc⟩:=L.int h.vb h0
     have hn:=dgt_no hc
     simp only;rw [e'];intro x;cases x;exact hn.2.2.2.1 rfl
    ·rw [if_neg v1]
     by_cases v2:h.vt=2
     ·rw [if_pos v2]
      by_cases e1:h.vb=9218868437227405312
      ·rw [if_pos e1];decide
      ·rw [if_neg e1]
       by_cases e2:h.vb=9221120237041090561
       ·rw [if_pos e2];decide
       ·rw [if_neg e2]
        obtain ⟨c,r,e',hc⟩:=L.flo h.vb h0 (v2 ▸ hl) e1 e2
        have hn:=dgt_no hc
        simp only;rw [e'];intro x;cases x;exact hn.2.2.2.1 rfl
     ·rw [if_neg v2]
      split<;>decide
   ·exact ⟨tN h.name,kK tx h true k++kPo h,by simp [kB,kP,e],(nm_no L (show rn h.name=0 by simpa [nameE,e] using hnm)).2.2⟩
   ·have hm:orE (rn h.mod) (rn h.name)=0:=by simpa [nameE,e] using hnm
    exact ⟨tN h.mod,[tM [46],tN h.name]++kK tx h true k++kPo h,by simp [kB,kP,e],(nm_no L (orE_0 hm).1).2.2⟩
   ·exact ⟨tN h.name,[tM [40]]++kK tx h true k++kPo h,by simp [kB,kP,e],(nm_no L (show rn h.name=0 by simpa [nameE,e] using hnm)).2.2⟩
   ·have hm:orE (rn h.mod) (rn h.name)=0:=by simpa [nameE,e] using hnm
    exact ⟨tN h.mod,[tM [46],tN h.name,tM [40]]++kK tx h true k++kPo h,by simp [kB,kP,e],(nm_no L (orE_0 hm).1).2.2⟩
   ·by_cases o1:h.op=1
    ·exact ⟨tM [45],kK tx h true k++kPo h,by simp [kB,kP,e,o1],by decide⟩
    ·by_cases o2:h.op=2
     ·exact ⟨tM [33],kK tx h true k++kPo h,by simp [kB,kP,e,o2],by decide⟩
     ·by_cases o3:h.op=3
      ·exact ⟨tW [105,110,116],tM [40]::(kK tx h true k++kPo h),by simp [kB,kP,e,o3],by decide⟩
      ·exact ⟨tW [102,108,111,97,116],tM [40]::(kK tx h true k++kPo h),by simp [kB,kP,e,o1,o2,o3],by decide⟩
   ·have h2:k.len=2:=by simp [fitsE,e] at hfit;exact hfit.2.2.1
    cases k with
    | nil=>simp [Exs.len] at h2
    | cons x kx r =>
      obtain ⟨hRx,_⟩:=RX_kid hL
      obtain ⟨t,r',e',ht⟩:=ih x kx (by simp only [Exs.size] at hs;omega) hRx hN.1 hN.2.1
      by_cases hp:level x<kidL h true
      ·refine ⟨tM [40],(kB tx x kx++[tM [41]])++kK tx h false r++kPo h,?_,by decide⟩
       simp [kB,kP,e,kK,kPar,hp]
      ·refine ⟨t,r'++kK tx h false r++kPo h,?_,ht⟩
       have:kB tx h (.cons x kx r)=kB tx x kx++(kK tx h false r++kPo h):=by simp [kB,kP,e,kK,kPar,hp]
       rw [this,e']
       simp
   ·exact ⟨tW [105,110,112,117,116],kK tx h true k++kPo h,by simp [kB,kP,e],by decide⟩
theorem args_ok (p:EH) (hp:p.kind=4∨p.kind=5) (k:Exs) (hlen:k.len≤8) (hL:errL rn cn k=0) (hN:NnX k) (IH:∀h' k',RX rn cn h' k'→0≤h'.vb→NnX k'→k'.size<k.size→Kid tx h' k') (f g d:Nat) (hd:d≤32) (a':Int) (hD:dK p k true (d:Int) a'≤32) (rest:List Tok)
 (hf:(tM [40]::(kK tx p true k++tM [41]::rest)).length≤f) (hg:(tM [40]::(kK tx p true k++tM [41]::rest)).length≤g) :
 args (expr f) g d (tM [40]::(kK tx p true k++tM [41]::rest))=some (.ok k rest):=by
 cases k with
 | nil =>
   simp only [kK,List.nil_append]
   rw [args,if_pos ⟨rfl,rfl⟩]
 | cons h k r =>
   have hl:=level_r h
   have kL:∀b,kidL p b=1:=by intro b;unfold kidL;rcases hp with e | e<;>simp [e]
   have kD:kidD p=1:=by unfold kidD;rcases hp with e | e<;>simp [e]
   obtain ⟨hRx,hLr⟩:=RX_kid hL
   obtain ⟨t,r',e',ht⟩:=head_ok L _ h k (Nat.lt_succ_self _) hRx hN.1 hN.2.1
   have hT:kK tx p true (.cons h k r)++tM [41]::rest=kB tx h k++(kK tx p false r++tM [41]::rest):=by
    rw [kK,kL,if_pos rfl,kPar,if_neg (by simp;omega)]
    simp [kB]
   rw [hT] at hf hg ⊢
   obtain ⟨d1,d2,a2,d3⟩:=dK_cons (by omega) (by omega) hD
   rw [kL,kD] at d2
   rw [kD] at d1
   have hT2:kB tx h k++(kK tx p false r++tM [41]::rest)=t::(r'++(kK tx p false r++tM [41]::rest)):=by rw [e'];simp
   have hF:Fin 1 (kK tx p false r++tM [41]::rest):=by
    cases r with
    | nil=>simp only [kK,List.nil_append];exact fin_t _ _ _ (by decide) (by decide) (by decide)
    | cons h' k' r' =>
      have kS:kSe p=[tM [44]]:=by unfold kSe;rcases hp with e | e<;>simp [e]
      rw [kK,kS,if_neg (by simp)];simp only [List.cons_append,List.append_assoc];exact fin_t _ _ _ (by decide) (by decide) (by decide)
   have hE:=expr_kid (IH h k hRx hN.1 hN.2.1 (by simp only [Exs.size];omega)) f (d+1) (kK tx p false r++tM [41]::rest) (by simp only [List.length_cons] at hf;omega) (by omega) (dX_no d2 (by omega)) hF
   simp only [List.length_cons,Exs.len] at hf hg hlen
   have hW:=rw_args (tx:=tx) rn cn p hp f d (by omega) rest r (.cons h k .nil) g a2 hLr hN.2.2 (fun h' k' r1 r2 r3 hs=>IH h' k' r1 r2 r3 (by simp only [Exs.size];omega)) (by simp only [Exs.len];omega) (by simp [Exs.len]) (by simp only [List.length_append] at hf ⊢;omega) (by simp only [List.length_append] at hg ⊢;omega) d3
   rw [hT2] at hE ⊢
   rw [args,if_neg (fun x=>ht x.2),opn,if_pos (by rfl),if_neg (by omega),if_neg (by decide),bd_ok,hE,bd_ok,hW,bd_ok,must,if_pos (by rfl),if_neg (by decide),bd_ok]
   rfl
end
end Pz
end
section
namespace Pz
open Lx Te
open Go.RowKit (wrap64)
section
variable {rn:Bs→Int} {cn:Int→Int} {tx:Int→Int→Bs} (L:Law rn cn tx)
include L
theorem b_call (h:EH) (k:Exs) (hR:RX rn cn h k) (hN:NnX k) (hk:h.kind=4) (IH:∀h' k',RX rn cn h' k'→0≤h'.vb→NnX k'→k'.size<k.size→Kid tx h' k') (f g f' d:Nat) (rest:List Tok) (h1:(kB tx h k++rest).length≤f+1) (h2:(kB tx h k++rest).length≤g) (h3:0<f') (hd:d≤32) (hD:dB h k (d:Int)≤32) :
 un (expr f) g f' false d (kB tx h k++rest)=some (.ok (h,k) rest):=by
 obtain ⟨hfit,hnm,hlen,hL⟩:=fits_of L hR
 have hA:=args_ok L h (Or.inl hk) k hlen hL hN IH f g d hd _ hD rest
 obtain ⟨kind,op,mod,name,vt,vb⟩:=h
 simp only at hk
 subst hk
 obtain ⟨f',rfl⟩:∃x,f'=x+1:=⟨f' - 1,by omega⟩
 simp [fitsE] at hfit
 obtain ⟨rfl,rfl,rfl,rfl⟩:=hfit
 have hn:=nm_no L (show rn name=0 by simpa [nameE] using hnm)
 have hT:kB tx ⟨4,0,[],name,0,0⟩ k++rest=tN name::tM [40]::(kK tx ⟨4,0,[],name,0,0⟩ true k++tM [41]::rest):=by simp [kB,kP,kPo]
 rw [hT] at h1 h2 ⊢
 simp only [List.length_cons] at h1 h2 hA
 rw [un_pr hn.1 hn.2.1,pr,if_neg (by simp [tN]),if_pos (by rfl),refr,Pz.name,if_pos (by rfl),if_neg (by decide),bd_ok,has,if_neg (by decide),bd_ok]
 simp only [Bool.false_eq_true,if_false,bd_ok]
 rw [if_pos (by rfl),call,hA (by omega) (by omega),bd_ok]
 rfl
theorem b_farcall (h:EH) (k:Exs) (hR:RX rn cn h k) (hN:NnX k) (hk:h.kind=5) (IH:∀h' k',RX rn cn h' k'→0≤h'.vb→NnX k'→k'.size<k.size→Kid tx h' k') (f g f' d:Nat) (rest:List Tok) (h1:(kB tx h k++rest).length≤f+1) (h2:(kB tx h k++rest).length≤g) (h3:0<f') (hd:d≤32) (hD:dB h k (d:Int)≤32) :
 un (expr f) g f' false d (kB tx h k++rest)=some (.ok (h,k) rest):=by
 obtain ⟨hfit,hnm,hlen,hL⟩:=fits_of L hR
 have hA:=args_ok L h (Or.inr hk) k hlen hL hN IH f g d hd _ hD rest
 obtain ⟨kind,op,mod,name,vt,vb⟩:=h
 simp only at hk
 subst hk
 obtain ⟨f',rfl⟩:∃x,f'=x+1:=⟨f' - 1,by omega⟩
 simp [fitsE] at hfit
 obtain ⟨rfl,rfl,rfl⟩:=hfit
 have hm:orE (rn mod) (rn name)=0:=by simpa [nameE] using hnm
 have hn:=nm_no L (orE_0 hm).1
 have hT:kB tx ⟨5,0,mod,name,0,0⟩ k++rest=tN mod::tM [46]::tN name::tM [40]::(kK tx ⟨5,0,mod,name,0,0⟩ true k++tM [41]::rest):=by simp [kB,kP,kPo]
 rw [hT] at h1 h2 ⊢
 simp only [List.length_cons] at h1 h2 hA
 rw [un_pr hn.1 hn.2.1,pr,if_neg (by simp [tN]),if_pos (by rfl),refr,Pz.name,if_pos (by rfl),if_neg (by decide),bd_ok,has,if_pos (by rfl),if_neg (by decide),bd_ok]
 simp only [if_true]
 rw [Pz.name,if_pos (by rfl),if_neg (by decide),bd_ok,bd_ok]
 simp only []
 rw [if_pos (by rfl),call,hA (by omega) (by omega),bd_ok]
 rfl
theorem one_kid {k:Exs} (h:k.len=1):∃x kx,k = .cons x kx .nil:=by
 cases k with
 | nil=>simp [Exs.len] at h
 | cons x kx r =>
   obtain rfl:=len0 (show r.len=0 by simp only [Exs.len] at h;omega)
   exact ⟨x,kx,rfl⟩
theorem b_un (h:EH) (k:Exs) (hR:RX rn cn h k) (hN:NnX k) (hk:h.kind=6) (IH:∀h' k',RX rn cn h' k'→0≤h'.vb→NnX k'→k'.size<k.size→Kid tx h' k'∧KidU tx h' k') (f g f' d:Nat) (rest:List Tok) (h1:(kB tx h k++rest).length≤f+1) (h2:(kB tx h k++rest).length≤g) (h3:(kB tx h k++rest).length≤f') (hd:d≤32) (hD:dB h k (d:Int)≤32) (hF:Fin 6 rest) :
 un (expr f) g f' false d (kB tx h k++rest)=some (.ok (h,k) rest):=by
 obtain ⟨hfit,hnm,hlen,hL⟩:=fits_of L hR
 obtain ⟨kind,op,mod,name,vt,vb⟩:=h
 simp only at hk
 subst hk
 simp [fitsE] at hfit
 obtain ⟨hop1,hop2,hk1,rfl,rfl,rfl,rfl⟩:=hfit
 obtain ⟨x,kx,rfl⟩:=one_kid L hk1
 have hx:=level_r x
 have IHx:=IH x kx (RX_kid hL).1 hN.1 hN.2.1 (by simp only [Exs.size];omega)
 by_cases o12:op=1∨op=2
 ·have kL:kidL ⟨6,op,[],[],0,0⟩ true=6:=by unfold kidL;simp [o12]
  have kD:kidD ⟨6,op,[],[],0,0⟩=1:=by unfold kidD;rcases o12 with rfl | rfl<;>simp
  obtain ⟨d1,d2,_,_⟩:=dK_cons (by omega) (by omega) hD
  rw [kL,kD] at d2
  rw [kD] at d1
  have mkk:∃c,kP tx ⟨6,op,[],[],0,0⟩=[tM [c]]∧((op=1∧c=45)∨(op=2∧c=33)):=by
   rcases o12 with rfl | rfl
   ·exact ⟨45,by simp [kP],Or.inl ⟨rfl,rfl⟩⟩
   ·exact ⟨33,by simp [kP],Or.inr ⟨rfl,rfl⟩⟩
  obtain ⟨c,hc1,hc2⟩:=mkk
  have hT:kB tx ⟨6,op,[],[],0,0⟩ (.cons x kx .nil)++rest=tM [c]::(kA tx x kx 6++rest):=by
   rw [kB,hc1,kK,kK,kL,if_pos rfl]
   simp [kPo,o12,kA,kB]
  rw [hT] at h1 h2 h3 ⊢
  simp only [List.length_cons] at h1 h2 h3
  obtain ⟨f',rfl⟩:∃x,f'=x+1:=⟨f' - 1,by omega⟩
  have hU:=IHx.2 f g f' (d+1) rest (by omega) (by omega) (by omega) (by omega) d2 hF
  rcases hc2 with ⟨rfl,rfl⟩ | ⟨rfl,rfl⟩
  ·rw [un,if_pos (by rfl),opn,if_pos (by rfl),if_neg (by omega),if_neg (by decide),bd_ok,hU,bd_ok]
   rfl
  ·rw [un,if_neg (by decide),if_pos (by rfl),opn,if_pos (by rfl),if_neg (by omega),if_neg (by decide),bd_ok,hU,bd_ok]
   rfl
 ·have kL:kidL ⟨6,op,[],[],0,0⟩ true=1:=by unfold kidL;simp [o12]
  have kD:kidD ⟨6,op,[],[],0,0⟩=1:=by unfold kidD;simp;omega
  obtain ⟨d1,d2,_,_⟩:=dK_cons (by omega) (by omega) hD
  rw [kL,kD] at d2
  rw [kD] at d1
  have hO:op=3∨op=4:=by omega
  have hT:kB tx ⟨6,op,[],[],0,0⟩ (.cons x kx .nil)++rest=tW (if op=3 then [105,110,116] else [102,108,111,97,116])::tM [40]::(kB tx x kx++tM [41]::rest):=by
   rw [kB,kK,kK,kL,if_pos rfl,kPar,if_neg (by simp;omega)]
   rcases hO with rfl | rfl<;>simp [kP,kPo,kB]
  rw [hT] at h1 h2 h3 ⊢
  simp only [List.length_cons] at h1 h2 h3
  obtain ⟨f',rfl⟩:∃x,f'=x+1:=⟨f' - 1,by omega⟩
  have hE:=expr_kid IHx.1 f (d+1) (tM [41]::rest) (by omega) (by omega) (dX_no d2 (by omega)) (fin_t _ _ _ (by decide) (by decide) (by decide))
  have hI:ins (expr f) false d (tM [40]::(kB tx x kx++tM [41]::rest))=some (.ok (x,kx) rest):=by
   rw [ins,opn,if_pos (by rfl),if_neg (by omega),if_neg (by decide),bd_ok,hE,bd_ok,must,if_pos (by rfl),if_neg (by decide),bd_ok]
  rcases hO with rfl | rfl
  ·rw [un_pr (by decide) (by decide),pr,if_neg (by decide),if_neg (by decide),if_neg (by decide),if_neg (by decide),if_neg (by decide),if_neg (by decide),if_neg (by decide),if_pos (by decide),if_neg (by decide),hI,bd_ok]
   rfl
  ·rw [un_pr (by decide) (by decide),pr,if_neg (by decide),if_neg (by decide),if_neg (by decide),if_neg (by decide),if_neg (by decide),if_neg (by decide),if_neg (by decide),if_neg (by decide),if_pos (by decide),if_neg (by decide),hI,bd_ok]
   rfl
theorem bareU (h:EH) (k:Exs) (hR:RX rn cn h k) (h0:0≤h.vb) (hN:NnX k) (hl:6≤level h) (IH:∀h' k',RX rn cn h' k'→0≤h'.vb→NnX k'→k'.size<k.size→Kid tx h' k'∧KidU tx h' k') (f g f' d:Nat) (rest:List Tok) (h1:(kB tx h k++rest).length≤f+1) (h2:(kB tx h k++rest).length≤g) (h3:(kB tx h k++rest).length≤f') (hd:d≤32) (hD:dB h k (d:Int)≤32) (hF:Fin 6 rest) :
 un (expr f) g f' false d (kB tx h k++rest)=some (.ok (h,k) rest):=by
 obtain ⟨hfit,_,_,_⟩:=fits_of L hR
 have hf':0<f':=by
  obtain ⟨t,r,rfl,_⟩:=hF
  simp only [List.length_append,List.length_cons] at h3
  omega
 have hK:h.kind=1∨h.kind=2∨h.kind=3∨h.kind=4∨h.kind=5∨h.kind=6∨h.kind=7∨h.kind=8:=by
  have hfit':=hfit
  unfold fitsE at hfit'
  repeat' split at hfit'
  all_goals first | omega | cases hfit'
 rcases hK with e | e | e | e | e | e | e | e
 ·exact b_lit L h k hR h0 e _ g f' d hf' rest
 ·exact b_name L h k hR e _ g f' d hf' rest hF
 ·exact b_far L h k hR e _ g f' d hf' rest hF
 ·exact b_call L h k hR hN e (fun h' k' r1 r2 r3 hs=>(IH h' k' r1 r2 r3 hs).1) f g f' d rest h1 h2 hf' hd hD
 ·exact b_farcall L h k hR hN e (fun h' k' r1 r2 r3 hs=>(IH h' k' r1 r2 r3 hs).1) f g f' d rest h1 h2 hf' hd hD
 ·exact b_un L h k hR hN e IH f g f' d rest h1 h2 h3 hd hD hF
 ·exfalso
  simp [fitsE,e] at hfit
  unfold level lv2 at hl
  simp [e] at hl
  repeat' split at hl
  all_goals omega
 ·exact b_input L h k hR e _ g f' d hf' rest
end
end Pz
end
section
namespace Pz
open Lx Te
open Go.RowKit (wrap64)
theorem Fin.mono {a b:Nat} {rest:List Tok} (h:Fin a rest) (hab:a≤b):Fin b rest:=by
 obtain ⟨t,r,rfl,h1,h2,h3⟩:=h
 exact ⟨t,r,rfl,h1,h2,by omega⟩
theorem op_cases {op:Int} (h1:1≤op) (h2:op≤13):op=1∨op=2∨op=3∨op=4∨op=5∨op=6∨op=7∨op=8∨op=9∨op=10∨op=11∨op=12∨op=13:=by omega
theorem mk2_op {op:Int} (h1:1≤op) (h2:op≤13):∃lv:Nat,lv2 op=(lv:Int)∧1≤lv∧lv≤5∧opOf (mk2 op)=(op,lv)∧mk2 op≠[46]∧mk2 op≠[40]:=by
 rcases op_cases h1 h2 with rfl | rfl | rfl | rfl | rfl | rfl | rfl | rfl | rfl | rfl | rfl | rfl | rfl
 ·exact ⟨4,by decide⟩
 ·exact ⟨4,by decide⟩
 ·exact ⟨5,by decide⟩
 ·exact ⟨5,by decide⟩
 ·exact ⟨5,by decide⟩
 ·exact ⟨3,by decide⟩
 ·exact ⟨3,by decide⟩
 ·exact ⟨3,by decide⟩
 ·exact ⟨3,by decide⟩
 ·exact ⟨3,by decide⟩
 ·exact ⟨3,by decide⟩
 ·exact ⟨2,by decide⟩
 ·exact ⟨1,by decide⟩
section
variable {rn:Bs→Int} {cn:Int→Int} {tx:Int→Int→Bs} (L:Law rn cn tx)
include L
theorem two_kids {k:Exs} (h:k.len=2):∃x kx y ky,k = .cons x kx (.cons y ky .nil):=by
 cases k with
 | nil=>simp [Exs.len] at h
 | cons x kx r =>
   obtain ⟨y,ky,rfl⟩:=one_kid L (show r.len=1 by simp only [Exs.len] at h;omega)
   exact ⟨x,kx,y,ky,rfl⟩
theorem bin_parts (h:EH) (k:Exs) (hR:RX rn cn h k) (hk:h.kind=7):∃(op:Int) (lv:Nat) (x:EH) (kx:Exs) (y:EH) (ky:Exs),h=⟨7,op,[],[],0,0⟩∧k = .cons x kx (.cons y ky .nil)∧1≤lv∧lv≤5∧opOf (mk2 op)=(op,lv)∧mk2 op≠[46]∧mk2 op≠[40]∧level h=(lv:Int) ∧
 kidL h true=(if lv=3 then 4 else (lv:Int))∧kidL h false=(lv:Int)+1∧kidD h=0:=by
 obtain ⟨hfit,hnm,hlen,hL⟩:=fits_of L hR
 obtain ⟨kind,op,mod,name,vt,vb⟩:=h
 simp only at hk
 subst hk
 simp [fitsE] at hfit
 obtain ⟨o1,o2,h2,rfl,rfl,rfl,rfl⟩:=hfit
 obtain ⟨x,kx,y,ky,rfl⟩:=two_kids L h2
 obtain ⟨lv,e1,e2,e3,e4,e5,e6⟩:=mk2_op o1 o2
 refine ⟨op,lv,x,kx,y,ky,rfl,rfl,e2,e3,e4,e5,e6,by simp [level,e1],?_,?_,by simp [kidD]⟩
 ·simp only [kidL,side,e1]
  by_cases h3:lv=3
  ·subst h3;simp
  ·simp only [if_neg h3]
   rw [if_neg (by decide),if_pos trivial,if_neg (by omega),if_neg (fun h=>by rcases h with h | h;(cases h);(omega))]
 ·simp only [kidL,side,e1]
  rw [if_neg (by decide),if_pos trivial,if_neg (by omega),if_pos (Or.inl trivial)]
theorem bin_toks (op:Int) (x:EH) (kx:Exs) (y:EH) (ky:Exs) (rest:List Tok):kB tx ⟨7,op,[],[],0,0⟩ (.cons x kx (.cons y ky .nil))++rest=kA tx x kx (kidL ⟨7,op,[],[],0,0⟩ true)++(tM (mk2 op)::(kA tx y ky (kidL ⟨7,op,[],[],0,0⟩ false)++rest)):=by
 simp [kB,kP,kK,kPo,kSe,kA]
theorem chain (h:EH) (k:Exs) (hR:RX rn cn h k) (hN:NnX k) (hk:h.kind=7) (m:Nat) (hm:m≤4) (hm2:m≠2) (hlv:level h=((5 - m:Nat):Int)) (IH:∀h' k',RX rn cn h' k'→0≤h'.vb→NnX k'→k'.size<k.size→Kid tx h' k'∧Chn tx h' k') (f g d:Nat) (rest:List Tok)
 (h1:(kB tx h k++rest).length≤f+1) (h2:(kB tx h k++rest).length≤g) (hd:d≤32) (hD:dB h k (d:Int)≤32) (hF:Fin (6 - m) rest) :
 ∃g',rest.length≤g'∧two (expr f) g (m+1) false d (kB tx h k++rest)=lp (two (expr f) g m false d) (5 - m) g' (h,k) rest:=by
 obtain ⟨_,_,_,hL⟩:=fits_of L hR
 obtain ⟨op,lv,x,kx,y,ky,rfl,rfl,l1,l2,hop,n1,n2,hl,kL1,kL2,kD⟩:=bin_parts L h k hR hk
 obtain rfl:5 - m=lv:=by omega
 obtain ⟨hRx,hL2⟩:=RX_kid hL
 obtain ⟨hRy,_⟩:=RX_kid hL2
 rw [if_neg (by omega)] at kL1
 obtain ⟨_,dx,a2,hD2⟩:=dK_cons (by omega) (by omega) hD
 obtain ⟨_,dy,_,_⟩:=dK_cons (by omega) (by omega) hD2
 rw [kL1,kD,Int.add_zero] at dx
 rw [kL2,kD,Int.add_zero] at dy
 rw [bin_toks L,kL1,kL2] at h1 h2 ⊢
 have hFm:Fin (6 - m) (tM (mk2 op)::(kA tx y ky (((5 - m:Nat):Int)+1)++rest)):=fin_t _ _ _ n1 n2 (by show (opOf (mk2 op)).2<6 - m;rw [hop];simp only;omega)
 obtain ⟨g1,hg1,e1⟩:=(IH x kx hRx hN.1 hN.2.1 (by simp only [Exs.size];omega)).2 f g d m _ hm hm2 h1 h2 hd dx hFm
 rw [e1]
 simp only [List.length_cons,List.length_append] at hg1 h1 h2
 obtain ⟨g2,rfl⟩:∃x,g1=x+1:=⟨g1 - 1,by omega⟩
 have e6:((5 - m:Nat):Int)+1=((6 - m:Nat):Int):=by omega
 rw [e6] at dy h1 h2 hg1 ⊢
 have hy:=(IH y ky hRy hN.2.2.1 hN.2.2.2.1 (by simp only [Exs.size];omega)).1 f g d m rest (by omega) (by simp only [List.length_append];omega) (by simp only [List.length_append];omega) hd dy hF
 refine ⟨g2,by omega,?_⟩
 rw [lp,if_neg (by show ¬(opOf (mk2 op)).2≠5 - m;rw [hop];simp),hy,bd_ok,if_neg (by omega)]
 show lp _ _ g2 (bin (opOf (mk2 op)).1 (x,kx) (y,ky)) rest=_
 rw [hop]
 rfl
theorem comp (h:EH) (k:Exs) (hR:RX rn cn h k) (hN:NnX k) (hk:h.kind=7) (hlv:level h=3) (IH:∀h' k',RX rn cn h' k'→0≤h'.vb→NnX k'→k'.size<k.size→Kid tx h' k'∧Chn tx h' k') (f g d:Nat) (rest:List Tok)
 (h1:(kB tx h k++rest).length≤f+1) (h2:(kB tx h k++rest).length≤g) (hd:d≤32) (hD:dB h k (d:Int)≤32) (hF:Fin 4 rest) :
 two (expr f) g 3 false d (kB tx h k++rest)=some (.ok (h,k) rest):=by
 obtain ⟨_,_,_,hL⟩:=fits_of L hR
 obtain ⟨op,lv,x,kx,y,ky,rfl,rfl,l1,l2,hop,n1,n2,hl,kL1,kL2,kD⟩:=bin_parts L h k hR hk
 obtain rfl:lv=3:=by omega
 obtain ⟨hRx,hL2⟩:=RX_kid hL
 obtain ⟨hRy,_⟩:=RX_kid hL2
 rw [if_pos rfl] at kL1
 obtain ⟨_,dx,a2,hD2⟩:=dK_cons (by omega) (by omega) hD
 obtain ⟨_,dy,_,_⟩:=dK_cons (by omega) (by omega) hD2
 rw [kL1,kD,Int.add_zero] at dx
 rw [kL2,kD,Int.add_zero] at dy
 have e4:((3:Nat):Int)+1=((6 - 2:Nat):Int):=by decide
 have e4':(4:Int)=((6 - 2:Nat):Int):=by decide
 rw [bin_toks L,kL1,kL2] at h1 h2 ⊢
 rw [e4] at dy h1 h2 ⊢
 rw [e4'] at dx h1 h2 ⊢
 have hF2:Fin (6 - 2) (tM (mk2 op)::(kA tx y ky ((6 - 2:Nat):Int)++rest)):=fin_t _ _ _ n1 n2 (by show (opOf (mk2 op)).2<6 - 2;rw [hop];simp only;omega)
 have hx:=(IH x kx hRx hN.1 hN.2.1 (by simp only [Exs.size];omega)).1 f g d 2 _ (by omega) h1 h2 hd dx hF2
 simp only [List.length_cons,List.length_append] at h1 h2
 have hy:=(IH y ky hRy hN.2.2.1 hN.2.2.2.1 (by simp only [Exs.size];omega)).1 f g d 2 rest (by omega) (by simp only [List.length_append];omega) (by simp only [List.length_append];omega) hd dy hF
 obtain ⟨g2,rfl⟩:∃x,g=x+1:=⟨g - 1,by omega⟩
 rw [two,hx,bd_ok,lp,if_neg (by show ¬(opOf (mk2 op)).2≠5 - 2;rw [hop];simp),hy,bd_ok,if_pos (by rfl)]
 show some (Rs.ok (bin (opOf (mk2 op)).1 (x,kx) (y,ky)) rest)=_
 rw [hop]
 rfl
theorem bin_of (h:EH) (k:Exs) (hR:RX rn cn h k) (hl:level h<6):h.kind=7:=by
 obtain ⟨hfit,_,_,_⟩:=fits_of L hR
 unfold level at hl
 by_cases e:h.kind=6
 ·rw [if_pos e] at hl
  split at hl<;>omega
 ·rw [if_neg e] at hl
  by_cases e7:h.kind=7
  ·exact e7
  ·rw [if_neg e7] at hl;omega
theorem bare (h:EH) (k:Exs) (hR:RX rn cn h k) (h0:0≤h.vb) (hN:NnX k) (IH:∀h' k',RX rn cn h' k'→0≤h'.vb→NnX k'→k'.size<k.size→Kid tx h' k'∧Chn tx h' k') (IHU:∀h' k',RX rn cn h' k'→0≤h'.vb→NnX k'→k'.size<k.size→Kid tx h' k'∧KidU tx h' k') (f g d n:Nat) (hn:n≤5) (hl:((6 - n:Nat):Int)≤level h) (rest:List Tok)
 (h1:(kB tx h k++rest).length≤f+1) (h2:(kB tx h k++rest).length≤g) (hd:d≤32) (hD:dB h k (d:Int)≤32) (hF:Fin (6 - n) rest) :
 two (expr f) g n false d (kB tx h k++rest)=some (.ok (h,k) rest):=by
 have hg:0<g:=by
  obtain ⟨t,r,rfl,_⟩:=hF
  simp only [List.length_append,List.length_cons] at h2
  omega
 by_cases h6:6≤level h
 ·have h00:two (expr f) g 0 false d (kB tx h k++rest)=some (.ok (h,k) rest):=by
   rw [two]
   exact bareU L h k hR h0 hN h6 IHU f g g d rest h1 h2 h2 hd hD (hF.mono (by omega))
  exact two_up hg h00 n (by omega) hn hF
 ·have hk:=bin_of L h k hR (by omega)
  obtain ⟨op,lv,_,_,_,_,_,_,l1,l2,_,_,_,hlv,_⟩:=bin_parts L h k hR hk
  by_cases h3:lv=3
  ·subst h3
   have hc:=comp L h k hR hN hk hlv IH f g d rest h1 h2 hd hD (hF.mono (by omega))
   exact two_up hg hc n (by omega) hn hF
  ·obtain ⟨g',hg',e⟩:=chain L h k hR hN hk (5 - lv) (by omega) (by omega) (by rw [hlv];congr 1;omega) IH f g d rest h1 h2 hd hD (hF.mono (by omega))
   have hc:two (expr f) g (5 - lv+1) false d (kB tx h k++rest)=some (.ok (h,k) rest):=by
    rw [e]
    obtain ⟨t,r,rfl,t1,t2,t3⟩:=hF
    simp only [List.length_cons] at hg'
    obtain ⟨g2,rfl⟩:∃x,g'=x+1:=⟨g' - 1,by omega⟩
    rw [lp,if_pos (by omega)]
   exact two_up hg hc n (by omega) hn hF
theorem paren (h:EH) (k:Exs) (hR:RX rn cn h k) (h0:0≤h.vb) (hN:NnX k) (IH:∀h' k',RX rn cn h' k'→0≤h'.vb→NnX k'→k'.size<k.size→Kid tx h' k'∧Chn tx h' k') (IHU:∀h' k',RX rn cn h' k'→0≤h'.vb→NnX k'→k'.size<k.size→Kid tx h' k'∧KidU tx h' k') (f g f' d:Nat) (rest:List Tok)
 (h1:(tM [40]::(kB tx h k++[tM [41]])++rest).length≤f+1) (h3:0<f') (hd:d+1≤32) (hD:dB h k ((d:Int)+1)≤32) :
 un (expr f) g f' false d (tM [40]::(kB tx h k++[tM [41]])++rest)=some (.ok (h,k) rest):=by
 have hl:=level_r h
 have hT:tM [40]::(kB tx h k++[tM [41]])++rest=tM [40]::(kB tx h k++tM [41]::rest):=by simp
 rw [hT] at h1 ⊢
 simp only [List.length_cons,List.length_append] at h1
 obtain ⟨f',rfl⟩:∃x,f'=x+1:=⟨f' - 1,by omega⟩
 obtain ⟨f,rfl⟩:∃x,f=x+1:=⟨f - 1,by omega⟩
 have hE:expr (f+1) false (d+1) (kB tx h k++tM [41]::rest)=some (.ok (h,k) (tM [41]::rest)):=by
  rw [expr]
  exact bare L h k hR h0 hN IH IHU f (f+1) (d+1) 5 (by omega) (by show ((6 - 5:Nat):Int)≤level h;omega) (tM [41]::rest) (by simp only [List.length_append,List.length_cons];omega) (by simp only [List.length_append,List.length_cons];omega) (by omega) (by exact_mod_cast hD) (fin_t _ _ _ (by decide) (by decide) (by decide))
 rw [un_pr (by decide) (by decide),pr,if_neg (by decide),if_neg (by decide),if_neg (by decide),if_neg (by decide),if_neg (by decide),if_neg (by decide),if_neg (by decide),if_neg (by decide),if_neg (by decide),ins,opn,if_pos (by rfl),if_neg (by omega),if_neg (by decide),bd_ok,hE,bd_ok,must,if_pos (by rfl),if_neg (by decide),bd_ok]
theorem kA_pos {h:EH} {k:Exs} {least:Int} (hl:level h<least):kA tx h k least=tM [40]::(kB tx h k++[tM [41]]):=by
 unfold kA kPar
 rw [if_pos (by simpa using hl)]
theorem kA_neg {h:EH} {k:Exs} {least:Int} (hl:¬level h<least):kA tx h k least=kB tx h k:=by
 unfold kA kPar
 rw [if_neg (by simpa using hl)]
theorem kids:∀(n:Nat) (h:EH) (k:Exs),k.size<n→RX rn cn h k→0≤h.vb→NnX k→Kid tx h k∧KidU tx h k∧Chn tx h k:=by
 intro n
 induction n with
 | zero=>intro h k hn;omega
 | succ n ih =>
   intro h k hs hR h0 hN
   have IH:∀h' k',RX rn cn h' k'→0≤h'.vb→NnX k'→k'.size<k.size→Kid tx h' k'∧Chn tx h' k':=fun h' k' r1 r2 r3 r4=>⟨(ih h' k' (by omega) r1 r2 r3).1,(ih h' k' (by omega) r1 r2 r3).2.2⟩
   have IHU:∀h' k',RX rn cn h' k'→0≤h'.vb→NnX k'→k'.size<k.size→Kid tx h' k'∧KidU tx h' k':=fun h' k' r1 r2 r3 r4=>⟨(ih h' k' (by omega) r1 r2 r3).1,(ih h' k' (by omega) r1 r2 r3).2.1⟩
   have pos:∀{lv:Nat} {rest:List Tok} {T:List Tok},Fin lv rest→0<(T++rest).length:=by
    intro lv rest T hF
    obtain ⟨t,r,rfl,_⟩:=hF
    simp only [List.length_append,List.length_cons]
    omega
   have hU:KidU tx h k:=by
    intro f g f' d rest h1 h2 h3 hd hD hF
    by_cases hl:level h<6
    ·rw [kA_pos L hl] at h1 h2 h3 ⊢
     obtain ⟨d1,d2⟩:=dX_par (by omega) (by omega) hD hl
     exact paren L h k hR h0 hN IH IHU f g f' d rest h1 (by have:=pos (T:=tM [40]::(kB tx h k++[tM [41]])) hF;omega) (by omega) d2
    ·rw [kA_neg L hl] at h1 h2 h3 ⊢
     exact bareU L h k hR h0 hN (by omega) IHU f g f' d rest h1 h2 h3 hd (dX_no hD hl) hF
   have hK:Kid tx h k:=by
    intro f g d n rest hn h1 h2 hd hD hF
    by_cases hl:level h<((6 - n:Nat):Int)
    ·rw [kA_pos L hl] at h1 h2 ⊢
     obtain ⟨d1,d2⟩:=dX_par (by omega) (by omega) hD hl
     have hg:=pos (T:=tM [40]::(kB tx h k++[tM [41]])) hF
     have h00:two (expr f) g 0 false d (tM [40]::(kB tx h k++[tM [41]])++rest)=some (.ok (h,k) rest):=by
      rw [two]
      exact paren L h k hR h0 hN IH IHU f g g d rest h1 (by omega) (by omega) d2
     exact two_up (by omega) h00 n (by omega) hn hF
    ·rw [kA_neg L hl] at h1 h2 ⊢
     exact bare L h k hR h0 hN IH IHU f g d n hn (by omega) rest h1 h2 hd (dX_no hD hl) hF
   refine ⟨hK,hU,?_⟩
   intro f g d m rest hm hm2 h1 h2 hd hD hF
   by_cases he:level h=((5 - m:Nat):Int)
   ·have hl:¬level h<((5 - m:Nat):Int):=by omega
    rw [kA_neg L hl] at h1 h2 ⊢
    exact chain L h k hR hN (bin_of L h k hR (by omega)) m hm hm2 he IH f g d rest h1 h2 hd (dX_no hD hl) hF
   ·have eA:kA tx h k ((5 - m:Nat):Int)=kA tx h k ((6 - m:Nat):Int):=by
     by_cases hl:level h<((5 - m:Nat):Int)
     ·rw [kA_pos L hl,kA_pos L (by omega)]
     ·rw [kA_neg L hl,kA_neg L (by omega)]
    have eD:dX h k ((5 - m:Nat):Int) (d:Int)=dX h k ((6 - m:Nat):Int) (d:Int):=by
     unfold dX inAt
     by_cases hl:level h<((5 - m:Nat):Int)
     ·rw [if_pos hl,if_pos (by omega)]
     ·rw [if_neg hl,if_neg (by omega)]
    rw [eA] at h1 h2 ⊢
    rw [eD] at hD
    refine ⟨g,by simp only [List.length_append] at h2;omega,?_⟩
    rw [two,hK f g d m rest (by omega) h1 h2 hd hD hF,bd_ok]
theorem expr_back (h:EH) (k:Exs) (hR:RX rn cn h k) (h0:0≤h.vb) (hN:NnX k) (f d:Nat) (rest:List Tok) (hf:(kB tx h k++rest).length<f) (hd:d≤32) (hD:dX h k 1 (d:Int)≤32) (hF:Fin 1 rest):expr f false d (kB tx h k++rest)=some (.ok (h,k) rest) :=
 expr_kid (kids L (k.size+1) h k (by omega) hR h0 hN).1 f d rest hf hd (dX_no hD (by have:=level_r h;omega)) hF
end
end Pz
end
section
namespace Pz
open Lx Te
open Go.RowKit (wrap64)
section
variable (tx:Int→Int→Bs)
def kF:Exs→List Tok
 | .nil=>[]
 | .cons h k _=>kB tx h k
def kSt:Sts→List Tok
 | .nil=>[]
 | .cons h e b l r =>
   (if h.kind=1 then tW [108,101,116]::tN h.name::tM [61]::(kF tx e++[tM [59]])
    else if h.kind=2 then tN h.name::tM [61]::(kF tx e++[tM [59]])
    else if h.kind=3 then tW [105,102]::(kF tx e++tM [123]::(kSt b++tM [125]::(if 0<l.len then tW [101,108,115,101]::tM [123]::(kSt l++[tM [125]]) else [])))
    else if h.kind=4 then tW [119,104,105,108,101]::(kF tx e++tM [123]::(kSt b++[tM [125]]))
    else if h.kind=5 then tW [114,101,116,117,114,110]::(kF tx e++[tM [59]])
    else if h.kind=6 then tW [115,104,111,119]::(kF tx e++[tM [59]])
    else if h.kind=7 then tW [102,97,105,108]::(kF tx e++[tM [59]])
    else if h.kind=8 then tW [116,114,121]::tM [123]::(kSt b++tM [125]::tW [99,97,116,99,104]::tN h.name::tM [123]::(kSt l++[tM [125]]))
    else kF tx e++[tM [59]])++kSt r
end
def NnS:Sts→Prop
 | .nil=>True
 | .cons _ e b l r=>NnX e∧NnS b∧NnS l∧NnS r
theorem dS_acc:∀(s:Sts) (a acc:Int),acc≤dS s a acc
 | .nil,_,acc=>Int.le_refl _
 | .cons h e b l r,a,acc=>by
   rw [dS]
   refine Int.le_trans ?_ (dS_acc r a _)
   omega
theorem dS_cons {h:SH} {e:Exs} {b l r:Sts} {a acc:Int} (h0:0≤a) (h1:a≤32) (H:dS (.cons h e b l r) a acc≤32) :
 dL e a a≤32∧((hasBody h.kind=true∨0<b.len)→dS b (a+1) (a+1)≤32)∧((h.kind=8∨0<l.len)→dS l (a+1) (a+1)≤32)∧∃acc',dS r a acc'≤32:=by
 rw [dS,wrap_sm (a:=a+1) (by omega) (by omega)] at H
 have h2:=dS_acc r a (max acc (if h.kind=8∨0<l.len then max (if hasBody h.kind || decide (0<b.len) then max (dL e a a) (dS b (a+1) (a+1)) else dL e a a) (dS l (a+1) (a+1)) else if hasBody h.kind || decide (0<b.len) then max (dL e a a) (dS b (a+1) (a+1)) else dL e a a))
 have h3:=Int.le_trans h2 H
 refine ⟨?_,?_,?_,_,H⟩
 ·split at h3<;>split at h3<;>omega
 ·intro hb
  rw [if_pos (c:=(hasBody h.kind || decide (0<b.len))=true) (by simpa using hb)] at h3
  split at h3<;>omega
 ·intro hl
  rw [if_pos hl] at h3
  omega
theorem lone_dep {h:EH} {k:Exs} {a acc:Int} (H:dL (.cons h k .nil) a acc≤32):dX h k 1 a≤32:=by
 rw [dL,dL] at H
 omega
theorem one_of {e:Exs} (h:e.len=1):∃x k,e = .cons x k .nil:=by
 cases e with
 | nil=>simp [Exs.len] at h
 | cons x k r =>
   simp [Exs.len] at h
   obtain rfl:=len0 h
   exact ⟨x,k,rfl⟩
theorem len0S {k:Sts} (h:k.len=0):k = .nil:=by
 cases k with
 | nil=>rfl
 | cons _ _ _ _ _=>simp [Sts.len] at h
section
variable {rn:Bs→Int} {cn:Int→Int} {tx:Int→Int→Bs} (L:Law rn cn tx)
include L
theorem lone_back (h:EH) (k:Exs) (hR:errL rn cn (.cons h k .nil)=0) (hN:NnX (.cons h k .nil)) (g d:Nat) (t:Tok) (rest:List Tok) (ht:t.x=[59]∨t.x=[123]) (hg:(kF tx (.cons h k .nil)++t::rest).length<g) (hd:d≤32) (hD:dX h k 1 (d:Int)≤32) :
 lone (E0 g) d (kF tx (.cons h k .nil)++t::rest)=some (.ok (.cons h k .nil) (t::rest)):=by
 obtain ⟨hR,_⟩:=RX_kid hR
 have:=expr_back L h k hR hN.1 hN.2.1 g d (t::rest) hg hd hD ⟨t,rest,rfl,by rcases ht with e | e<;>rw [e]<;>decide,by rcases ht with e | e<;>rw [e]<;>decide,by rcases ht with e | e<;>rw [e]<;>decide⟩
 unfold lone E0
 rw [kF,this,bd_ok]
end
end Pz
end
section
namespace Pz
open Lx Te
theorem must_y {s:Bs} {t:Tok} {r:List Tok} (h:t.x=s):must s false (t::r)=some (.ok () r):=by rw [must,if_pos h];rfl
theorem has_y {s:Bs} {t:Tok} {r:List Tok} (h:t.x=s):has s false (t::r)=some (.ok true r):=by rw [has,if_pos h];rfl
theorem has_n {s:Bs} {t:Tok} {r:List Tok} (h:t.x≠s):has s false (t::r)=some (.ok false (t::r)):=by rw [has,if_neg h]
theorem name_y {x:Bs} {r:List Tok}:name false (tN x::r)=some (.ok x r):=rfl
section
variable {rn:Bs→Int} {cn:Int→Int} {tx:Int→Int→Bs} (L:Law rn cn tx)
def kOne (tx:Int→Int→Bs) (h:SH) (e:Exs) (b l:Sts):List Tok :=
 if h.kind=1 then tW [108,101,116]::tN h.name::tM [61]::(kF tx e++[tM [59]])
 else if h.kind=2 then tN h.name::tM [61]::(kF tx e++[tM [59]])
 else if h.kind=3 then tW [105,102]::(kF tx e++tM [123]::(kSt tx b++tM [125]::(if 0<l.len then tW [101,108,115,101]::tM [123]::(kSt tx l++[tM [125]]) else [])))
 else if h.kind=4 then tW [119,104,105,108,101]::(kF tx e++tM [123]::(kSt tx b++[tM [125]]))
 else if h.kind=5 then tW [114,101,116,117,114,110]::(kF tx e++[tM [59]])
 else if h.kind=6 then tW [115,104,111,119]::(kF tx e++[tM [59]])
 else if h.kind=7 then tW [102,97,105,108]::(kF tx e++[tM [59]])
 else if h.kind=8 then tW [116,114,121]::tM [123]::(kSt tx b++tM [125]::tW [99,97,116,99,104]::tN h.name::tM [123]::(kSt tx l++[tM [125]]))
 else kF tx e++[tM [59]]
theorem kSt_cons (h:SH) (e:Exs) (b l r:Sts):kSt tx (.cons h e b l r)=kOne tx h e b l++kSt tx r:=by rw [kSt];rfl
theorem ended_ok (kind:Int) (n:Bs) (e:Exs) (rest:List Tok):ended kind n e (tM [59]::rest)=some (.ok (⟨kind,n⟩,e,.nil,.nil) rest):=by
 rw [ended,must_y (by rfl),bd_ok]
include L
omit L in
theorem dgt_59 {c:UInt8} (h:dgt c=true):c≠59:=by rintro rfl;revert h;decide
theorem nm_59 {x:Bs} (h:rn x=0):x≠[59]:=by
 obtain ⟨c,r,rfl,hc⟩:=L.nm x h
 intro e;cases e;revert hc;decide
theorem head_59:∀(n:Nat) (h:EH) (k:Exs),k.size<n→RX rn cn h k→0≤h.vb→NnX k→∃t r,kB tx h k=t::r∧t.x≠[59]:=by
 intro n
 induction n with
 | zero=>intro h k hn;omega
 | succ n ih =>
   intro h k hs hR h0 hN
   obtain ⟨hfit,hnm,_,hL⟩:=fits_of L hR
   have hK:h.kind=1∨h.kind=2∨h.kind=3∨h.kind=4∨h.kind=5∨h.kind=6∨h.kind=7∨h.kind=8:=by
    unfold fitsE at hfit
    repeat' split at hfit
    all_goals first | omega | cases hfit
   rcases hK with e | e | e | e | e | e | e | e
   ·refine ⟨tL tx h.vt h.vb,kK tx h true k++kPo h,by simp [kB,kP,e],?_⟩
    unfold tL
    have hl:litOk cn h.vt h.vb=true:=by simp [fitsE,e] at hfit;exact hfit.1
    by_cases v1:h.vt=1
    ·rw [if_pos v1]
     obtain ⟨c,r,e',hc⟩:=L.int h.vb h0
     simp only;rw [e'];intro x;cases x;exact dgt_59 hc rfl
    ·rw [if_neg v1]
     by_cases v2:h.vt=2
     ·rw [if_pos v2]
      by_cases e1:h.vb=9218868437227405312
      ·rw [if_pos e1];decide
      ·rw [if_neg e1]
       by_cases e2:h.vb=9221120237041090561
       ·rw [if_pos e2];decide
       ·rw [if_neg e2]
        obtain ⟨c,r,e',hc⟩:=L.flo h.vb h0 (v2 ▸ hl) e1 e2
        simp only;rw [e'];intro x;cases x;exact dgt_59 hc rfl
     ·rw [if_neg v2]
      split<;>decide
   ·exact ⟨tN h.name,kK tx h true k++kPo h,by simp [kB,kP,e],nm_59 L (show rn h.name=0 by simpa [nameE,e] using hnm)⟩
   ·have hm:orE (rn h.mod) (rn h.name)=0:=by simpa [nameE,e] using hnm
    exact ⟨tN h.mod,[tM [46],tN h.name]++kK tx h true k++kPo h,by simp [kB,kP,e],nm_59 L (orE_0 hm).1⟩
   ·exact ⟨tN h.name,[tM [40]]++kK tx h true k++kPo h,by simp [kB,kP,e],nm_59 L (show rn h.name=0 by simpa [nameE,e] using hnm)⟩
   ·have hm:orE (rn h.mod) (rn h.name)=0:=by simpa [nameE,e] using hnm
    exact ⟨tN h.mod,[tM [46],tN h.name,tM [40]]++kK tx h true k++kPo h,by simp [kB,kP,e],nm_59 L (orE_0 hm).1⟩
   ·by_cases o1:h.op=1
    ·exact ⟨tM [45],kK tx h true k++kPo h,by simp [kB,kP,e,o1],by decide⟩
    ·by_cases o2:h.op=2
     ·exact ⟨tM [33],kK tx h true k++kPo h,by simp [kB,kP,e,o2],by decide⟩
     ·by_cases o3:h.op=3
      ·exact ⟨tW [105,110,116],tM [40]::(kK tx h true k++kPo h),by simp [kB,kP,e,o3],by decide⟩
      ·exact ⟨tW [102,108,111,97,116],tM [40]::(kK tx h true k++kPo h),by simp [kB,kP,e,o1,o2,o3],by decide⟩
   ·have h2:k.len=2:=by simp [fitsE,e] at hfit;exact hfit.2.2.1
    cases k with
    | nil=>simp [Exs.len] at h2
    | cons x kx r =>
      obtain ⟨hRx,_⟩:=RX_kid hL
      obtain ⟨t,r',e',ht⟩:=ih x kx (by simp only [Exs.size] at hs;omega) hRx hN.1 hN.2.1
      by_cases hp:level x<kidL h true
      ·refine ⟨tM [40],(kB tx x kx++[tM [41]])++kK tx h false r++kPo h,?_,by decide⟩
       simp [kB,kP,e,kK,kPar,hp]
      ·refine ⟨t,r'++kK tx h false r++kPo h,?_,ht⟩
       have:kB tx h (.cons x kx r)=kB tx x kx++(kK tx h false r++kPo h):=by simp [kB,kP,e,kK,kPar,hp]
       rw [this,e']
       simp
   ·exact ⟨tW [105,110,112,117,116],kK tx h true k++kPo h,by simp [kB,kP,e],by decide⟩
theorem alone (x:EH) (k:Exs) (hR:RX rn cn x k) (hN:NnX k) (hk:x.kind=4∨x.kind=5) (g d:Nat) (rest:List Tok) (hg:(kB tx x k++tM [59]::rest).length<g) (hd:d≤32) (hD:dX x k 1 (d:Int)≤32) :
 named (E0 g) (C0 g) d (kB tx x k++tM [59]::rest)=some (.ok (⟨9,[]⟩,.cons x k .nil,.nil,.nil) rest)∧∃n r,kB tx x k=tN n::r∧rn n=0:=by
 obtain ⟨hfit,hnm,hlen,hL⟩:=fits_of L hR
 have hD2:dB x k (d:Int)≤32:=dX_no hD (by have:=level_r x;omega)
 have IH:∀h' k',RX rn cn h' k'→0≤h'.vb→NnX k'→k'.size<k.size→Kid tx h' k':=fun h' k' a b c _=>(kids L (k'.size+1) h' k' (by omega) a b c).1
 have hA:=args_ok L x hk k hlen hL hN IH g g d hd _ hD2 (tM [59]::rest)
 obtain ⟨kind,op,mod,name,vt,vb⟩:=x
 rcases hk with hk | hk
 ·simp only at hk
  subst hk
  simp [fitsE] at hfit
  obtain ⟨rfl,rfl,rfl,rfl⟩:=hfit
  have hn:rn name=0:=by simpa [nameE] using hnm
  have hT:kB tx ⟨4,0,[],name,0,0⟩ k++tM [59]::rest=tN name::tM [40]::(kK tx ⟨4,0,[],name,0,0⟩ true k++tM [41]::tM [59]::rest):=by simp [kB,kP,kPo]
  rw [hT] at hg ⊢
  simp only [List.length_cons] at hg hA
  refine ⟨?_,name,tM [40]::(kK tx ⟨4,0,[],name,0,0⟩ true k++[tM [41]]),by simp [kB,kP,kPo],hn⟩
  rw [named,refr,name_y,bd_ok,has_n (by decide),bd_ok]
  simp only [Bool.false_eq_true,if_false,bd_ok]
  rw [if_neg (by simp [tM]),C0,call,hA (by omega) (by omega),bd_ok,bd_ok,ended_ok]
  rfl
 ·simp only at hk
  subst hk
  simp [fitsE] at hfit
  obtain ⟨rfl,rfl,rfl⟩:=hfit
  have hm:orE (rn mod) (rn name)=0:=by simpa [nameE] using hnm
  have hT:kB tx ⟨5,0,mod,name,0,0⟩ k++tM [59]::rest=tN mod::tM [46]::tN name::tM [40]::(kK tx ⟨5,0,mod,name,0,0⟩ true k++tM [41]::tM [59]::rest):=by simp [kB,kP,kPo]
  rw [hT] at hg ⊢
  simp only [List.length_cons] at hg hA
  refine ⟨?_,mod,tM [46]::tN name::tM [40]::(kK tx ⟨5,0,mod,name,0,0⟩ true k++[tM [41]]),by simp [kB,kP,kPo],(orE_0 hm).1⟩
  rw [named,refr,name_y,bd_ok,has_y (by rfl),bd_ok]
  simp only [if_true,bd_ok]
  rw [name_y,bd_ok]
  simp only [bd_ok]
  rw [if_neg (by simp),C0,call,hA (by omega) (by omega),bd_ok,bd_ok,ended_ok]
  rfl
theorem stm_back (h:SH) (e:Exs) (b l:Sts) (g d:Nat) (B:Nat→List Tok→Ou Sts) (t:Tok) (rest:List Tok) (ht:t.x≠[101,108,115,101])
 (hH:errSH rn h e b.len l.len=0) (hE:errL rn cn e=0) (hN:NnX e) (hd:d≤32) (hD:dL e (d:Int) (d:Int)≤32)
 (hg:(kOne tx h e b l++t::rest).length<g)
 (HB:hasBody h.kind=true→∀r,(tM [123]::(kSt tx b++tM [125]::r)).length<g→B d (tM [123]::(kSt tx b++tM [125]::r))=some (.ok b r))
 (HL:h.kind=8∨0<l.len→∀r,(tM [123]::(kSt tx l++tM [125]::r)).length<g→B d (tM [123]::(kSt tx l++tM [125]::r))=some (.ok l r)) :
 stm (E0 g) (C0 g) B d (kOne tx h e b l++t::rest)=some (.ok (h,e,b,l) (t::rest))∧∃u r,kOne tx h e b l=u::r∧((∃n,u=tN n∧rn n=0)∨(u.x≠[101,108,115,101]∧u.x≠[125])):=by
 unfold errSH at hH
 obtain ⟨hfit,hnm⟩:=orE_0 hH
 have hfit:fitsS h e b.len l.len=true:=by
  by_cases e':fitsS h e b.len l.len=true
  ·exact e'
  ·rw [if_neg e'] at hfit;omega
 obtain ⟨kind,nm⟩:=h
 have hK:kind=1∨kind=2∨kind=3∨kind=4∨kind=5∨kind=6∨kind=7∨kind=8∨kind=9:=by
  unfold fitsS at hfit
  simp only at hfit
  repeat' split at hfit
  all_goals first | omega | cases hfit
 rcases hK with rfl | rfl | rfl | rfl | rfl | rfl | rfl | rfl | rfl
 ·simp [fitsS] at hfit
  obtain ⟨h1,h2,h3⟩:=hfit
  obtain ⟨x,k,rfl⟩:=one_of h1
  obtain rfl:=len0S h2
  obtain rfl:=len0S h3
  refine ⟨?_,_,_,rfl,Or.inr ⟨by decide,by decide⟩⟩
  have hT:kOne tx ⟨1,nm⟩ (.cons x k .nil) .nil .nil++t::rest=tW [108,101,116]::tN nm::tM [61]::(kF tx (.cons x k .nil)++tM [59]::t::rest):=by simp [kOne]
  rw [hT] at hg ⊢
  simp only [List.length_cons] at hg
  rw [stm,if_neg (by simp [tW]),if_pos (by rfl),name_y,bd_ok,asg,must_y (by rfl),bd_ok,lone_back L x k hE hN g d _ _ (Or.inl rfl) (by omega) hd (lone_dep hD),bd_ok,ended_ok]
 ·simp [fitsS] at hfit
  obtain ⟨h1,h2,h3⟩:=hfit
  obtain ⟨x,k,rfl⟩:=one_of h1
  obtain rfl:=len0S h2
  obtain rfl:=len0S h3
  have hn:rn nm=0:=by simpa [nameS] using hnm
  refine ⟨?_,_,_,rfl,Or.inl ⟨nm,rfl,hn⟩⟩
  have hT:kOne tx ⟨2,nm⟩ (.cons x k .nil) .nil .nil++t::rest=tN nm::tM [61]::(kF tx (.cons x k .nil)++tM [59]::t::rest):=by simp [kOne]
  rw [hT] at hg ⊢
  simp only [List.length_cons] at hg
  rw [stm,if_pos (by rfl),named,refr,name_y,bd_ok,has_n (by decide),bd_ok]
  simp only [Bool.false_eq_true,if_false,bd_ok]
  rw [if_pos ⟨trivial,by rfl⟩,asg,must_y (by rfl),bd_ok,lone_back L x k hE hN g d _ _ (Or.inl rfl) (by omega) hd (lone_dep hD),bd_ok,ended_ok]
 ·simp [fitsS] at hfit
  obtain ⟨h1,rfl⟩:=hfit
  obtain ⟨x,k,rfl⟩:=one_of h1
  refine ⟨?_,_,_,rfl,Or.inr ⟨by decide,by decide⟩⟩
  by_cases hl:0<l.len
  ·have hT:kOne tx ⟨3,[]⟩ (.cons x k .nil) b l++t::rest=tW [105,102]::(kF tx (.cons x k .nil)++tM [123]::(kSt tx b++tM [125]::tW [101,108,115,101]::tM [123]::(kSt tx l++tM [125]::t::rest))):=by simp [kOne,hl]
   rw [hT] at hg ⊢
   simp only [List.length_cons,List.length_append] at hg HB HL
   rw [stm,if_neg (by simp [tW]),if_neg (by decide),if_pos (by rfl),branch,lone_back L x k hE hN g d _ _ (Or.inr rfl) (by simp only [List.length_cons,List.length_append];omega) hd (lone_dep hD),bd_ok,HB rfl _ (by simp only [List.length_cons,List.length_append];omega),bd_ok,has_y (by rfl),bd_ok,if_pos (by rfl),HL (Or.inr hl) _ (by simp only [List.length_cons,List.length_append];omega),bd_ok]
  ·obtain rfl:=len0S (Nat.eq_zero_of_not_pos hl)
   have hT:kOne tx ⟨3,[]⟩ (.cons x k .nil) b .nil++t::rest=tW [105,102]::(kF tx (.cons x k .nil)++tM [123]::(kSt tx b++tM [125]::t::rest)):=by simp [kOne,hl]
   rw [hT] at hg ⊢
   simp only [List.length_cons,List.length_append] at hg HB
   rw [stm,if_neg (by simp [tW]),if_neg (by decide),if_pos (by rfl),branch,lone_back L x k hE hN g d _ _ (Or.inr rfl) (by simp only [List.length_cons,List.length_append];omega) hd (lone_dep hD),bd_ok,HB rfl _ (by simp only [List.length_cons,List.length_append];omega),bd_ok,has_n ht,bd_ok]
   rfl
 ·simp [fitsS] at hfit
  obtain ⟨h1,rfl,h3⟩:=hfit
  obtain ⟨x,k,rfl⟩:=one_of h1
  obtain rfl:=len0S h3
  refine ⟨?_,_,_,rfl,Or.inr ⟨by decide,by decide⟩⟩
  have hT:kOne tx ⟨4,[]⟩ (.cons x k .nil) b .nil++t::rest=tW [119,104,105,108,101]::(kF tx (.cons x k .nil)++tM [123]::(kSt tx b++tM [125]::t::rest)):=by simp [kOne]
  rw [hT] at hg ⊢
  simp only [List.length_cons,List.length_append] at hg HB
  rw [stm,if_neg (by simp [tW]),if_neg (by decide),if_neg (by decide),if_pos (by rfl),while_,lone_back L x k hE hN g d _ _ (Or.inr rfl) (by simp only [List.length_cons,List.length_append];omega) hd (lone_dep hD),bd_ok,HB rfl _ (by simp only [List.length_cons,List.length_append];omega),bd_ok]
 ·simp [fitsS] at hfit
  obtain ⟨h1,rfl,h2,h3⟩:=hfit
  obtain rfl:=len0S h2
  obtain rfl:=len0S h3
  refine ⟨?_,_,_,rfl,Or.inr ⟨by decide,by decide⟩⟩
  have hT:kOne tx ⟨5,[]⟩ e .nil .nil++t::rest=tW [114,101,116,117,114,110]::(kF tx e++tM [59]::t::rest):=by simp [kOne]
  rw [hT] at hg ⊢
  simp only [List.length_cons] at hg
  rw [stm,if_neg (by simp [tW]),if_neg (by decide),if_neg (by decide),if_neg (by decide),if_pos (by rfl)]
  cases e with
  | nil =>
    simp only [kF,List.nil_append]
    rw [returned,if_pos (by rfl),ended_ok]
  | cons x k r =>
    obtain ⟨_,_,e1⟩:=one_of (e:=.cons x k r) (by simp [Exs.len] at h1 ⊢;omega)
    cases e1
    obtain ⟨u,r',e2,hu⟩:=head_59 L _ x k (Nat.lt_succ_self _) (RX_kid hE).1 hN.1 hN.2.1
    have hb:=lone_back L x k hE hN g d _ (t::rest) (Or.inl (show (tM [59]).x=[59] from rfl)) (by omega) hd (lone_dep hD)
    rw [kF,e2,List.cons_append] at hb ⊢
    rw [returned,if_neg hu,hb,bd_ok,ended_ok]
 ·simp [fitsS] at hfit
  obtain ⟨h1,rfl,h2,h3⟩:=hfit
  obtain ⟨x,k,rfl⟩:=one_of h1
  obtain rfl:=len0S h2
  obtain rfl:=len0S h3
  refine ⟨?_,_,_,rfl,Or.inr ⟨by decide,by decide⟩⟩
  have hT:kOne tx ⟨6,[]⟩ (.cons x k .nil) .nil .nil++t::rest=tW [115,104,111,119]::(kF tx (.cons x k .nil)++tM [59]::t::rest):=by simp [kOne]
  rw [hT] at hg ⊢
  simp only [List.length_cons] at hg
  rw [stm,if_neg (by simp [tW]),if_neg (by decide),if_neg (by decide),if_neg (by decide),if_neg (by decide),if_pos (by rfl),lone_back L x k hE hN g d _ _ (Or.inl rfl) (by omega) hd (lone_dep hD),bd_ok,ended_ok]
 ·simp [fitsS] at hfit
  obtain ⟨h1,rfl,h2,h3⟩:=hfit
  obtain ⟨x,k,rfl⟩:=one_of h1
  obtain rfl:=len0S h2
  obtain rfl:=len0S h3
  refine ⟨?_,_,_,rfl,Or.inr ⟨by decide,by decide⟩⟩
  have hT:kOne tx ⟨7,[]⟩ (.cons x k .nil) .nil .nil++t::rest=tW [102,97,105,108]::(kF tx (.cons x k .nil)++tM [59]::t::rest):=by simp [kOne]
  rw [hT] at hg ⊢
  simp only [List.length_cons] at hg
  rw [stm,if_neg (by simp [tW]),if_neg (by decide),if_neg (by decide),if_neg (by decide),if_neg (by decide),if_neg (by decide),if_pos (by rfl),lone_back L x k hE hN g d _ _ (Or.inl rfl) (by omega) hd (lone_dep hD),bd_ok,ended_ok]
 ·simp [fitsS] at hfit
  obtain rfl:=len0 hfit
  refine ⟨?_,_,_,rfl,Or.inr ⟨by decide,by decide⟩⟩
  have hT:kOne tx ⟨8,nm⟩ .nil b l++t::rest=tW [116,114,121]::tM [123]::(kSt tx b++tM [125]::tW [99,97,116,99,104]::tN nm::tM [123]::(kSt tx l++tM [125]::t::rest)):=by simp [kOne]
  rw [hT] at hg ⊢
  simp only [List.length_cons,List.length_append] at hg HB HL
  rw [stm,if_neg (by simp [tW]),if_neg (by decide),if_neg (by decide),if_neg (by decide),if_neg (by decide),if_neg (by decide),if_neg (by decide),if_pos (by rfl),tried,HB rfl _ (by simp only [List.length_cons,List.length_append];omega),bd_ok,must_y (by rfl),bd_ok,name_y,bd_ok,HL (Or.inl (by trivial)) _ (by first | omega | (simp only [List.length_cons,List.length_append];omega)),bd_ok]
 ·simp [fitsS] at hfit
  obtain ⟨h1,hk,rfl,h2,h3⟩:=hfit
  obtain ⟨x,k,rfl⟩:=one_of h1
  obtain rfl:=len0S h2
  obtain rfl:=len0S h3
  have hT:kOne tx ⟨9,[]⟩ (.cons x k .nil) .nil .nil++t::rest=kB tx x k++tM [59]::t::rest:=by simp [kOne,kF]
  rw [hT] at hg ⊢
  obtain ⟨ha,n,r',e1,hn⟩:=alone L x k (RX_kid hE).1 hN.2.1 hk g d (t::rest) hg hd (lone_dep hD)
  refine ⟨?_,tN n,r'++[tM [59]],by simp [kOne,kF,e1],Or.inl ⟨n,rfl,hn⟩⟩
  rw [e1,List.cons_append] at ha ⊢
  rw [stm,if_pos (by rfl),ha]
theorem one_head (h:SH) (e:Exs) (b l:Sts) (hH:errSH rn h e b.len l.len=0) (hE:errL rn cn e=0) (hN:NnX e):∃u r,kOne tx h e b l=u::r∧((∃n,u=tN n∧rn n=0)∨(u.x≠[101,108,115,101]∧u.x≠[125])):=by
 unfold errSH at hH
 obtain ⟨hfit,hnm⟩:=orE_0 hH
 have hfit:fitsS h e b.len l.len=true:=by
  by_cases e':fitsS h e b.len l.len=true
  ·exact e'
  ·rw [if_neg e'] at hfit;omega
 obtain ⟨kind,nm⟩:=h
 have hK:kind=1∨kind=2∨kind=3∨kind=4∨kind=5∨kind=6∨kind=7∨kind=8∨kind=9:=by
  unfold fitsS at hfit
  simp only at hfit
  repeat' split at hfit
  all_goals first | omega | cases hfit
 rcases hK with rfl | rfl | rfl | rfl | rfl | rfl | rfl | rfl | rfl
 ·exact ⟨_,_,rfl,Or.inr ⟨by decide,by decide⟩⟩
 ·exact ⟨_,_,rfl,Or.inl ⟨nm,rfl,by simpa [nameS] using hnm⟩⟩
 ·exact ⟨_,_,rfl,Or.inr ⟨by decide,by decide⟩⟩
 ·exact ⟨_,_,rfl,Or.inr ⟨by decide,by decide⟩⟩
 ·exact ⟨_,_,rfl,Or.inr ⟨by decide,by decide⟩⟩
 ·exact ⟨_,_,rfl,Or.inr ⟨by decide,by decide⟩⟩
 ·exact ⟨_,_,rfl,Or.inr ⟨by decide,by decide⟩⟩
 ·exact ⟨_,_,rfl,Or.inr ⟨by decide,by decide⟩⟩
 ·simp [fitsS] at hfit
  obtain ⟨h1,hk,_⟩:=hfit
  obtain ⟨x,k,rfl⟩:=one_of h1
  obtain ⟨hf,hm,_,_⟩:=fits_of L (RX_kid hE).1
  simp only [Exs.kind0] at hk
  rcases hk with hk | hk
  ·exact ⟨tN x.name,[tM [40]]++kK tx x true k++kPo x++[tM [59]],by simp [kOne,kF,kB,kP,hk],Or.inl ⟨_,rfl,by simpa [nameE,hk] using hm⟩⟩
  ·have hm:orE (rn x.mod) (rn x.name)=0:=by simpa [nameE,hk] using hm
   exact ⟨tN x.mod,[tM [46],tN x.name,tM [40]]++kK tx x true k++kPo x++[tM [59]],by simp [kOne,kF,kB,kP,hk],Or.inl ⟨_,rfl,(orE_0 hm).1⟩⟩
omit L in
theorem one_len (h:SH) (e:Exs) (b l:Sts):(hasBody h.kind=true→(kSt tx b).length<(kOne tx h e b l).length)∧(h.kind=8∨0<l.len→errSH rn h e b.len l.len=0→(kSt tx l).length<(kOne tx h e b l).length):=by
 refine ⟨?_,?_⟩
 ·intro hB
  have:h.kind=3∨h.kind=4∨h.kind=8:=by simpa [hasBody,or_assoc] using hB
  unfold kOne
  rcases this with e' | e' | e'<;>rw [e']<;>simp<;>omega
 ·intro hL hH
  unfold errSH at hH
  obtain ⟨hfit,hnm⟩:=orE_0 hH
  have hfit:fitsS h e b.len l.len=true:=by
   by_cases e':fitsS h e b.len l.len=true
   ·exact e'
   ·rw [if_neg e'] at hfit;omega
  have:h.kind=8∨(h.kind=3∧0<l.len):=by
   rcases hL with hL | hL
   ·exact Or.inl hL
   ·unfold fitsS at hfit
    repeat' split at hfit
    all_goals first | (right;exact ⟨by assumption,hL⟩) | (left;assumption) | (exfalso;simp at hfit;done) | (exfalso;simp at hfit;omega)
  unfold kOne
  rcases this with e' | ⟨e',hl⟩<;>rw [e']<;>simp [*]<;>omega
end
end Pz
end
end Go.Proofs.YteijjaabngkbjaaGreatDoor
