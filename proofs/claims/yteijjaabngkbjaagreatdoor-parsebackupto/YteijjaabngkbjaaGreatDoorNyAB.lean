/- TrS NxA TrM TrD TrD2 NyA -/
import Derived.KernelRfl
import Derived.WalkKit
import Derived.Test.YteijjaabngkbjaaGreatDoorRows
import Derived.WalkSpells
import Derived.WalkLawsBesides
import Derived.ProofKit
import Derived.RowKit3
import Derived.Laws.AppendOwn
import Derived.Laws.AppendOwnNone
import Derived.Maps.AppendAt
import Derived.Laws.Rows
import Derived.OwnWalk
import Derived.Deep.LoopGhost
import Derived.Deep.DeepCutAuto
import Derived.Lib.SlicesCompact
import Derived.Sort.EncStr
import Derived.Deep.RegionWith
import Derived.Sort.Walk0
import Derived.Shelf.SlSorted.Search
set_option maxRecDepth 100000
set_option maxHeartbeats 40000000
set_option linter.unusedVariables false
set_option linter.unusedSimpArgs false
set_option linter.unusedSectionVars false
namespace Go.Proofs.YteijjaabngkbjaaGreatDoor
section
namespace Te
open Go.RowKit (wrap64)
abbrev Bs:=List UInt8
structure EH where
 kind:Int
 op:Int
 mod:Bs
 name:Bs
 vt:Int
 vb:Int
 deriving DecidableEq
inductive Exs where
 | nil:Exs
 | cons (h:EH) (kids rest:Exs):Exs
 deriving DecidableEq
structure SH where
 kind:Int
 name:Bs
 deriving DecidableEq
inductive Sts where
 | nil:Sts
 | cons (h:SH) (e:Exs) (body els rest:Sts):Sts
 deriving DecidableEq
structure Pa where
 name:Bs
 type:Int
 deriving DecidableEq
structure De where
 kind:Int
 ex:Bool
 name:Bs
 type:Int
 params:List Pa
 e:Exs
 body:Sts
 deriving DecidableEq
structure Mo where
 name:Bs
 imports:List Bs
 decls:List De
 deriving DecidableEq
def Exs.len:Exs→Nat
 | .nil=>0
 | .cons _ _ r=>r.len+1
def Sts.len:Sts→Nat
 | .nil=>0
 | .cons _ _ _ _ r=>r.len+1
def Exs.size:Exs→Nat
 | .nil=>0
 | .cons _ k r=>k.size+r.size+1
def Sts.size:Sts→Nat
 | .nil=>0
 | .cons _ e b l r=>e.size+b.size+l.size+r.size+1
def Exs.kind0:Exs→Int
 | .nil=>0
 | .cons h _ _=>h.kind
def lv2 (op:Int):Int :=
 if op=13 then 1 else if op=12 then 2 else if 6≤op∧op≤11 then 3 else if op=1∨op=2 then 4 else if 3≤op∧op≤5 then 5 else 7
def level (h:EH):Int:=if h.kind=6 then (if h.op=1∨h.op=2 then 6 else 7) else if h.kind=7 then lv2 h.op else 7
def side (own:Int) (first:Bool):Int:=if own=7 then 1 else if first=false∨own=3 then own+1 else own
def kidL (h:EH) (first:Bool):Int:=if h.kind=6 then (if h.op=1∨h.op=2 then 6 else 1) else if h.kind=7 then side (lv2 h.op) first else 1
def kidD (h:EH):Int:=if h.kind=4∨h.kind=5 then 1 else if h.kind=6 then (if h.op=1∨h.op=2∨h.op=3∨h.op=4 then 1 else 0) else 0
def inAt (h:EH) (least at_:Int):Int:=if level h<least then wrap64 (at_+1) else at_
def dK (p:EH):Exs→Bool→Int→Int→Int
 | .nil,_,_,acc=>acc
 | .cons h k r,first,a,acc=>dK p r false a (max acc (dK h k true (inAt h (kidL p first) (wrap64 (a+kidD p))) (inAt h (kidL p first) (wrap64 (a+kidD p)))))
def dX (h:EH) (k:Exs) (least a:Int):Int:=dK h k true (inAt h least a) (inAt h least a)
def dL:Exs→Int→Int→Int
 | .nil,_,acc=>acc
 | .cons h k r,a,acc=>dL r a (max acc (dX h k 1 a))
def hasBody (k:Int):Bool:=k == 3 || k == 4 || k == 8
def dS:Sts→Int→Int→Int
 | .nil,_,acc=>acc
 | .cons h e b l r,a,acc =>
   let x1:=dL e a a
   let x2:=if hasBody h.kind || decide (0<b.len) then max x1 (dS b (wrap64 (a+1)) (wrap64 (a+1))) else x1
   let x3:=if h.kind=8∨0<l.len then max x2 (dS l (wrap64 (a+1)) (wrap64 (a+1))) else x2
   dS r a (max acc x3)
def dD (d:De):Int:=if d.kind=3∨0<d.body.len then max (dL d.e 0 0) (dS d.body 1 1) else dL d.e 0 0
def orE (a b:Int):Int:=if a=0 then b else a
section
variable (rn:Bs→Int) (cn:Int→Int)
def litOk (vt vb:Int):Bool :=
 if vt=1 then decide (vb<9223372036854775808) else if vt=2 then decide (vb<9223372036854775808) && decide (cn vb=vb) else if vt=3 then decide (vb≤1) else false
def fitsE (h:EH) (n:Nat):Bool :=
 if h.kind=1 then litOk cn h.vt h.vb && decide (h.op=0∧h.mod=[]∧h.name=[]∧n=0)
 else if h.kind=2 then decide (h.op=0∧h.mod=[]∧h.vt=0∧h.vb=0∧n=0)
 else if h.kind=3 then decide (h.op=0∧h.vt=0∧h.vb=0∧n=0)
 else if h.kind=4 then decide (h.op=0∧h.mod=[]∧h.vt=0∧h.vb=0)
 else if h.kind=5 then decide (h.op=0∧h.vt=0∧h.vb=0)
 else if h.kind=6 then decide (1≤h.op∧h.op≤4∧n=1∧h.mod=[]∧h.name=[]∧h.vt=0∧h.vb=0)
 else if h.kind=7 then decide (1≤h.op∧h.op≤13∧n=2∧h.mod=[]∧h.name=[]∧h.vt=0∧h.vb=0)
 else if h.kind=8 then decide (h.op=0∧h.mod=[]∧h.name=[]∧h.vt=0∧h.vb=0∧n=0)
 else false
def nameE (h:EH):Int:=if h.kind=2∨h.kind=4 then rn h.name else if h.kind=3∨h.kind=5 then orE (rn h.mod) (rn h.name) else 0
def errH (h:EH) (n:Nat):Int:=orE (if fitsE cn h n then 0 else 1) (orE (nameE rn h) (if 8<n then 3 else 0))
def errL:Exs→Int
 | .nil=>0
 | .cons h k r=>orE (orE (errH rn cn h k.len) (errL k)) (errL r)
def fitsS (h:SH) (e:Exs) (nb nl:Nat):Bool :=
 if h.kind=1∨h.kind=2 then decide (e.len=1∧nb=0∧nl=0)
 else if h.kind=3 then decide (e.len=1∧h.name=[])
 else if h.kind=4 then decide (e.len=1∧h.name=[]∧nl=0)
 else if h.kind=5 then decide (e.len≤1∧h.name=[]∧nb=0∧nl=0)
 else if h.kind=6∨h.kind=7 then decide (e.len=1∧h.name=[]∧nb=0∧nl=0)
 else if h.kind=8 then decide (e.len=0)
 else if h.kind=9 then decide (e.len=1∧(e.kind0=4∨e.kind0=5)∧h.name=[]∧nb=0∧nl=0)
 else false
def nameS (h:SH):Int:=if h.kind=1∨h.kind=2∨h.kind=8 then rn h.name else 0
def errSH (h:SH) (e:Exs) (nb nl:Nat):Int:=orE (if fitsS h e nb nl then 0 else 1) (nameS rn h)
def errS:Sts→Int
 | .nil=>0
 | .cons h e b l r=>orE (orE (errSH rn h e b.len l.len) (orE (errL rn cn e) (orE (errS b) (errS l)))) (errS r)
def isTy (t:Int):Bool:=t == 1 || t == 2 || t == 3
def fitsD (d:De):Bool :=
 if d.kind=1 then isTy d.type && decide (d.e.len=1∧d.params.length=0∧d.body.len=0)
 else if d.kind=2 then !d.ex && isTy d.type && decide (d.e.len=1∧d.params.length=0∧d.body.len=0)
 else if d.kind=3 then (d.type == 0 || isTy d.type) && decide (d.e.len=0)
 else false
def errP:List Pa→Int
 | []=>0
 | p::r=>orE (orE (rn p.name) (if isTy p.type then 0 else 1)) (errP r)
def errD (d:De):Int :=
 orE (if 32<dD d then 13 else 0) (orE (if fitsD d then 0 else 1) (orE (rn d.name) (orE (if 8<d.params.length then 3 else 0) (orE (errP rn d.params) (orE (errL rn cn d.e) (errS rn cn d.body))))))
def errI:List Bs→Int
 | []=>0
 | x::r=>orE (rn x) (errI r)
def errDs:List De→Int
 | []=>0
 | d::r=>orE (errD rn cn d) (errDs r)
def errM (m:Mo):Int:=orE (rn m.name) (orE (if 16<m.imports.length then 3 else 0) (orE (errI rn m.imports) (orE (if 64<m.decls.length then 3 else 0) (errDs rn cn m.decls))))
end
section
variable (tx:Int→Int→Bs)
def mark (op:Int):Bs :=
 if op=1 then [32,43,32] else if op=2 then [32,45,32] else if op=3 then [32,42,32] else if op=4 then [32,47,32] else if op=5 then [32,37,32]
 else if op=6 then [32,61,61,32] else if op=7 then [32,33,61,32] else if op=8 then [32,60,32] else if op=9 then [32,60,61,32]
 else if op=10 then [32,62,32] else if op=11 then [32,62,61,32] else if op=12 then [32,38,38,32] else [32,124,124,32]
def sep (h:EH):Bs:=if h.kind=7 then mark h.op else [44,32]
def pre (h:EH):Bs :=
 if h.kind=1 then tx h.vt h.vb else if h.kind=2 then h.name else if h.kind=3 then h.mod++46::h.name
 else if h.kind=4 then h.name++[40] else if h.kind=5 then (h.mod++46::h.name)++[40]
 else if h.kind=6 then (if h.op=1 then [45] else if h.op=2 then [33] else if h.op=3 then [105,110,116,40] else [102,108,111,97,116,40])
 else if h.kind=7 then [] else [105,110,112,117,116]
def post (h:EH):Bs:=if h.kind=4∨h.kind=5 then [41] else if h.kind=6∧¬(h.op=1∨h.op=2) then [41] else []
def par (b:Bool) (l:Bs):Bs:=if b then 40::l++[41] else l
def txK (p:EH):Bool→Exs→Bs
 | _,.nil=>[]
 | first,.cons h k r=>(if first then [] else sep p)++par (decide (level h<kidL p first)) (pre tx h++txK h true k++post h)++txK p false r
def bare (h:EH) (k:Exs):Bs:=pre tx h++txK tx h true k++post h
def txA (h:EH) (k:Exs) (least:Int):Bs:=par (decide (level h<least)) (bare tx h k)
def txF:Exs→Bs
 | .nil=>[]
 | .cons h k _=>bare tx h k
def pad (n:Nat):Bs:=(List.replicate n [32,32]).flatten
def tyT (t:Int):Bs:=if t=1 then [58,32,105,110,116] else if t=2 then [58,32,102,108,111,97,116] else if t=3 then [58,32,98,111,111,108] else []
def stT:Sts→Nat→Bs
 | .nil,_=>[]
 | .cons h e b l r,n =>
   (if h.kind=1 then pad n++[108,101,116,32]++h.name++[32,61,32]++txF tx e++[59,10]
    else if h.kind=2 then pad n++h.name++[32,61,32]++txF tx e++[59,10]
    else if h.kind=3 then pad n++[105,102,32]++txF tx e++[32,123,10]++stT b (n+1)++(if 0<l.len then pad n++[125,32,101,108,115,101,32,123,10]++stT l (n+1) else [])++pad n++[125,10]
    else if h.kind=4 then pad n++[119,104,105,108,101,32]++txF tx e++[32,123,10]++stT b (n+1)++pad n++[125,10]
    else if h.kind=5 then pad n++[114,101,116,117,114,110]++(if 0<e.len then 32::txF tx e else [])++[59,10]
    else if h.kind=6 then pad n++[115,104,111,119,32]++txF tx e++[59,10]
    else if h.kind=7 then pad n++[102,97,105,108,32]++txF tx e++[59,10]
    else if h.kind=8 then pad n++[116,114,121,32,123,10]++stT b (n+1)++pad n++[125,32,99,97,116,99,104,32]++h.name++[32,123,10]++stT l (n+1)++pad n++[125,10]
    else pad n++txF tx e++[59,10])++stT r n
def paT:List Pa→Bs
 | []=>[]
 | [p]=>p.name++tyT p.type
 | p::q::r=>p.name++tyT p.type++[44,32]++paT (q::r)
def exT (b:Bool):Bs:=if b then [101,120,112,111,114,116,32] else []
def deT (d:De):Bs :=
 if d.kind=1 then exT d.ex++[99,111,110,115,116,32]++d.name++tyT d.type++[32,61,32]++txF tx d.e++[59,10]
 else if d.kind=2 then [118,97,114,32]++d.name++tyT d.type++[32,61,32]++txF tx d.e++[59,10]
 else exT d.ex++[102,110,32]++d.name++[40]++paT d.params++[41]++tyT d.type++[32,123,10]++stT tx d.body 1++[125,10]
def moT (m:Mo):Bs :=
 [109,111,100,117,108,101,32]++m.name++[59,10]++m.imports.flatMap (fun x=>[105,109,112,111,114,116,32]++x++[59,10])++m.decls.flatMap (deT tx)
end
def ndD (d:De):Nat:=1+d.params.length+d.e.size+d.body.size
end Te
end
section
open Go.RowKit
def Hidden (p:Prop):Prop:=p
theorem alloc_old (w:World) (o:Obj) (k:Nat) (h:k<w.heap.size):(w.alloc o).heap[k]?=w.heap[k]?:=by
 show (w.heap.push o)[k]?=_
 rw [Array.getElem?_push_lt h]
 exact (Array.getElem?_eq_getElem h).symm
theorem alloc_new (w:World) (o:Obj):(w.alloc o).heap[w.heap.size]?=some o:=by
 show (w.heap.push o)[w.heap.size]?=_
 simp
structure Fr (S:Nat→Prop) (w w':World):Prop where
 os:w'.os=w.os
 output:w'.output=w.output
 size:w.heap.size≤w'.heap.size
 block:∀k,k<w.heap.size→¬S k→w'.heap[k]?=w.heap[k]?
theorem Fr.refl (S:Nat→Prop) (w:World):Fr S w w:=⟨rfl,rfl,Nat.le_refl _,fun _ _ _=>rfl⟩
theorem Fr.trans {S T:Nat→Prop} {a b c:World} (h:Fr S a b) (g:Fr T b c) (hT:∀k,k<a.heap.size→T k→S k):Fr S a c :=
 ⟨g.os.trans h.os,g.output.trans h.output,Nat.le_trans h.size g.size,fun k hk hn =>
   (g.block k (Nat.lt_of_lt_of_le hk h.size) (fun t=>hn (hT k hk t))).trans (h.block k hk hn)⟩
theorem Fr.same {S:Nat→Prop} {a b c:World} (h:Fr S a b) (g:Fr S b c):Fr S a c:=h.trans g (fun _ _ t=>t)
theorem Fr.mono {S T:Nat→Prop} {a b:World} (h:Fr S a b) (hT:∀k,k<a.heap.size→S k→T k):Fr T a b :=
 ⟨h.os,h.output,h.size,fun k hk hn=>h.block k hk (fun t=>hn (hT k hk t))⟩
theorem Fr.alloc (S:Nat→Prop) (w:World) (o:Obj):Fr S w (w.alloc o):=⟨rfl,rfl,by simp,fun k hk _=>alloc_old w o k hk⟩
theorem Fr.drew (S:Nat→Prop) (w:World):Fr S w w.drew:=⟨rfl,rfl,Nat.le_refl _,fun _ _ _=>rfl⟩
theorem Fr.grown {w w':World} {row:Option Nat} (h:w.grownBy w' row):Fr (fun k=>some k=row) w w':=⟨h.os,h.output,h.size,fun k hk hn=>h.block k hk hn⟩
theorem Fr.setCell (w:World) (a:Addr) (v:Value):Fr (fun k=>k=a.block) w (w.setCell a v) :=
 ⟨rfl,rfl,by simp,fun k _ hn=>heap_setCell_other w a k v hn⟩
theorem Fr.kept {w w':World} (h:Fr (fun _=>False) w w'):w.keptBut w' (fun _=>False) :=
 ⟨h.os,h.output,fun i hi=>by
   rw [h.block i hi (fun f=>f)]
   cases w.heap[i]? with
   | none=>rfl
   | some o=>cases o<;>simp⟩
theorem Fr.cell {S:Nat→Prop} {w w':World} (h:Fr S w w') {a:Addr} {v:Value} (hc:w.cell? a=some v) (hn:¬S a.block):w'.cell? a=some v :=
 (World.cell?_of_block (h.block a.block (World.block_lt_of_cell? w a hc) hn)).trans hc
theorem lt_of_heap {w:World} {k:Nat} {o:Obj} (h:w.heap[k]?=some o):k<w.heap.size:=(Array.getElem?_eq_some_iff.1 h).1
theorem Fr.heap {S:Nat→Prop} {w w':World} (h:Fr S w w') {k:Nat} {o:Obj} (hc:w.heap[k]?=some o) (hn:¬S k):w'.heap[k]?=some o :=
 (h.block k (lt_of_heap hc) hn).trans hc
def Sl (w:World) (v:Value) (xs:List Value):Prop :=
 ∃ao cap,v = .slice ao xs.length cap∧xs.length≤cap∧cap≤maxLen∧(ao=none→cap=0) ∧
  (xs=[]∨∃b off,ao=some ⟨b,off,none⟩∧∀(i:Nat) (x:Value),xs[i]?=some x→w.cell? ⟨b,off+i,none⟩=some x)
theorem Sl.nil (w:World):Sl w (.slice none 0 0) []:=⟨none,0,rfl,by simp,by simp,fun _=>rfl,Or.inl rfl⟩
theorem Fr.over {S T:Nat→Prop} {a b c:World} (h:Fr S a b) (g:Fr T b c) (hT:∀k,T k→a.heap.size≤k):Fr S a c :=
 h.trans g (fun k hk t=>absurd (hT k t) (by omega))
theorem Fr.cellN {w w':World} (h:Fr (fun _=>False) w w') {a:Addr} {v:Value} (hc:w.cell? a=some v):w'.cell? a=some v:=h.cell hc (fun f=>f)
end
section
abbrev Str:=List UInt8
end
section
open Go.RowKit Go.Sort
def Tl (w:World) (v:Value) (l:List Str):Prop :=
 ∃ao cap,v = .slice ao l.length cap∧l.length≤cap∧cap≤9223372036854775807∧(ao=none→cap=0) ∧
  (l=[]∨∃b off,ao=some ⟨b,off,none⟩∧∀(i:Nat) (x:Str),l[i]?=some x→w.cell? ⟨b,off+i,none⟩=some (encStr x))
def Tn (w:World) (B:Nat) (v:Value) (l:List Str):Prop :=
 ∃ao cap,v = .slice ao l.length cap∧l.length≤cap∧cap≤9223372036854775807∧(ao=none→cap=0) ∧
  (l=[]∨∃b off,ao=some ⟨b,off,none⟩∧B≤b∧b<w.heap.size∧Holds encStr w b off l.toArray)
theorem Tl.nil (w:World):Tl w (.slice none 0 0) []:=⟨none,0,rfl,by simp,by simp,fun _=>rfl,Or.inl rfl⟩
end
section
open Go.RowKit Go.Sort
theorem str_len (t:List UInt8):((⟨t.toArray⟩:ByteArray).size:Int)=(t.length:Int):=by simp [ByteArray.size]
theorem str_index (l:List UInt8) (k:Nat) (c:UInt8) (h:l[k]?=some c) (w:World) :
 (Instr.index 9 (.string ⟨l.toArray⟩) (.int .i64 (k:Int))).run Tryz.prog w = .ok (.int .u8 (c.toNat:Int)) w:=by
 obtain ⟨hk,hc⟩:=List.getElem?_eq_some_iff.1 h
 have hs:k<(⟨l.toArray⟩:ByteArray).size:=by simpa [ByteArray.size] using hk
 rw [run_index_string _ _ _ _ _ Tryz.underlying9,dif_pos ⟨by omega,by omega⟩]
 have e:(⟨l.toArray⟩:ByteArray)[k]'hs=c:=by
  show l.toArray[k]=c
  simpa using hc
 simp only [Int.toNat_natCast]
 rw [e]
theorem drop_at {α:Type} {l:List α} {j:Nat} {c:α} (h:l[j]?=some c):l.drop j=c::l.drop (j+1):=by
 obtain ⟨hj,rfl⟩:=List.getElem?_eq_some_iff.1 h
 exact List.drop_eq_getElem_cons hj
theorem frozen_of_row {w:World} {g:Nat} {cur:Array Value} {e:TypeId} (h:w.heap[g]?=some (.cells cur e (0,0))) (j:Nat):w.frozen? ⟨g,j,none⟩=false:=by simp [World.frozen?,h]
def wordsL:List Str:=[[98,111,111,108],[99,97,116,99,104],[99,111,110,115,116],[101,108,115,101],[101,120,112,111,114,116],[102,97,105,108],[102,97,108,115,101],[102,108,111,97,116],[102,110],[105,102],[105,109,112,111,114,116],[105,110,102],[105,110,112,117,116],[105,110,116],[108,101,116],[109,111,100,117,108,101],[110,97,110],[114,101,116,117,114,110],[115,104,111,119],[116,114,117,101],[116,114,121],[118,97,114],[119,104,105,108,101]]
theorem Tn.words (w:World):Tn (w.alloc (.cells (wordsL.map encStr).toArray 9)) w.heap.size (.slice (some ⟨w.heap.size,0,none⟩) 23 23) wordsL:=by
 refine ⟨_,23,rfl,by decide,by omega,(fun h=>by cases h),Or.inr ⟨w.heap.size,0,rfl,Nat.le_refl _,by simp,fun j hj=>?_⟩⟩
 have hb:=alloc_new w (.cells (wordsL.map encStr).toArray 9)
 have hj':j<wordsL.length:=by simpa using hj
 constructor
 ·rw [Nat.zero_add,cell_of_row _ _ _ _ _ _ hb,getElem!_pos _ j hj]
  simp [hj']
 ·exact frozen_of_row hb _
theorem reserved_in (s:Str) (h:s∈wordsL) (w:World) :
 Calls Tryz.prog 120 #[.string ⟨s.toArray⟩] w fun e w'=>e = .returned (.bool true)∧w'=w:=by
 simp only [wordsL,List.mem_cons,List.not_mem_nil,or_false] at h
 rcases h with rfl | rfl | rfl | rfl | rfl | rfl | rfl | rfl | rfl | rfl | rfl | rfl | rfl | rfl | rfl | rfl | rfl | rfl | rfl | rfl | rfl | rfl | rfl
 all_goals
  go_enter Tryz.func120,Tryz.ntmps120
  go_wp2
  go_ret
  exact ⟨rfl,rfl⟩
theorem reserved_out (s:Str) (h:s ∉ wordsL) (w:World) :
 Calls Tryz.prog 120 #[.string ⟨s.toArray⟩] w fun e w'=>e = .returned (.bool false)∧w'=w:=by
 have h0:(s == [98,111,111,108])=false:=beq_eq_false_iff_ne.2 (fun e=>h (e ▸ (by decide)))
 have h1:(s == [99,97,116,99,104])=false:=beq_eq_false_iff_ne.2 (fun e=>h (e ▸ (by decide)))
 have h2:(s == [99,111,110,115,116])=false:=beq_eq_false_iff_ne.2 (fun e=>h (e ▸ (by decide)))
 have h3:(s == [101,108,115,101])=false:=beq_eq_false_iff_ne.2 (fun e=>h (e ▸ (by decide)))
 have h4:(s == [101,120,112,111,114,116])=false:=beq_eq_false_iff_ne.2 (fun e=>h (e ▸ (by decide)))
 have h5:(s == [102,97,105,108])=false:=beq_eq_false_iff_ne.2 (fun e=>h (e ▸ (by decide)))
 have h6:(s == [102,97,108,115,101])=false:=beq_eq_false_iff_ne.2 (fun e=>h (e ▸ (by decide)))
 have h7:(s == [102,108,111,97,116])=false:=beq_eq_false_iff_ne.2 (fun e=>h (e ▸ (by decide)))
 have h8:(s == [102,110])=false:=beq_eq_false_iff_ne.2 (fun e=>h (e ▸ (by decide)))
 have h9:(s == [105,102])=false:=beq_eq_false_iff_ne.2 (fun e=>h (e ▸ (by decide)))
 have h10:(s == [105,109,112,111,114,116])=false:=beq_eq_false_iff_ne.2 (fun e=>h (e ▸ (by decide)))
 have h11:(s == [105,110,102])=false:=beq_eq_false_iff_ne.2 (fun e=>h (e ▸ (by decide)))
 have h12:(s == [105,110,112,117,116])=false:=beq_eq_false_iff_ne.2 (fun e=>h (e ▸ (by decide)))
 have h13:(s == [105,110,116])=false:=beq_eq_false_iff_ne.2 (fun e=>h (e ▸ (by decide)))
 have h14:(s == [108,101,116])=false:=beq_eq_false_iff_ne.2 (fun e=>h (e ▸ (by decide)))
 have h15:(s == [109,111,100,117,108,101])=false:=beq_eq_false_iff_ne.2 (fun e=>h (e ▸ (by decide)))
 have h16:(s == [110,97,110])=false:=beq_eq_false_iff_ne.2 (fun e=>h (e ▸ (by decide)))
 have h17:(s == [114,101,116,117,114,110])=false:=beq_eq_false_iff_ne.2 (fun e=>h (e ▸ (by decide)))
 have h18:(s == [115,104,111,119])=false:=beq_eq_false_iff_ne.2 (fun e=>h (e ▸ (by decide)))
 have h19:(s == [116,114,117,101])=false:=beq_eq_false_iff_ne.2 (fun e=>h (e ▸ (by decide)))
 have h20:(s == [116,114,121])=false:=beq_eq_false_iff_ne.2 (fun e=>h (e ▸ (by decide)))
 have h21:(s == [118,97,114])=false:=beq_eq_false_iff_ne.2 (fun e=>h (e ▸ (by decide)))
 have h22:(s == [119,104,105,108,101])=false:=beq_eq_false_iff_ne.2 (fun e=>h (e ▸ (by decide)))
 clear h
 go_enter Tryz.func120,Tryz.ntmps120
 go_wp2
 go_ret
 exact ⟨rfl,rfl⟩
theorem reserved_any (s:Str) (r:Bool) (hr:decide (s∈wordsL)=r) (w:World) :
 Calls Tryz.prog 120 #[.string ⟨s.toArray⟩] w fun e w'=>e = .returned (.bool r)∧w'=w:=by
 subst hr
 by_cases h:s∈wordsL
 ·rw [decide_eq_true h];exact reserved_in s h w
 ·rw [decide_eq_false h];exact reserved_out s h w
end
section
open Go.RowKit Te
abbrev ct (l:List UInt8):Value:=.string ⟨l.toArray⟩
abbrev ci (z:Int):Value:=.int .i64 z
def exC (h:EH) (kv:Value):List Value:=[ci h.kind,ci h.op,ct h.mod,ct h.name,ci h.vt,.int .u64 h.vb,kv]
abbrev exV (h:EH) (kv:Value):Value:=.agg #[ci h.kind,ci h.op,ct h.mod,ct h.name,ci h.vt,.int .u64 h.vb,kv]
def ExA (w:World):Exs→Nat→Nat→Prop
 | .nil,_,_=>True
 | .cons h k r,b,off=>(∃ao cap,(∀(j:Nat) (x:Value),(exC h (.slice ao k.len cap))[j]?=some x→w.cell? ⟨b,off+j,none⟩=some x)∧k.len≤cap∧cap≤maxLen ∧
    (k.len=0∨∃b' off',ao=some ⟨b',off',none⟩∧ExA w k b' off'))∧ExA w r b (off+7)
def ExL (w:World) (ao:Option Addr) (cap:Nat) (k:Exs):Prop :=
 k.len≤cap∧cap≤maxLen∧(k.len=0∨∃b off,ao=some ⟨b,off,none⟩∧ExA w k b off)
def stC (h:SH) (ev bv lv:Value):List Value:=[ci h.kind,ct h.name,ev,bv,lv]
abbrev stV (h:SH) (ev bv lv:Value):Value:=.agg #[ci h.kind,ct h.name,ev,bv,lv]
def StA (w:World):Sts→Nat→Nat→Prop
 | .nil,_,_=>True
 | .cons h e bo el r,b,off=>(∃ao1 cap1 ao2 cap2 ao3 cap3,(∀(j:Nat) (x:Value),(stC h (.slice ao1 e.len cap1) (.slice ao2 bo.len cap2) (.slice ao3 el.len cap3))[j]?=some x→w.cell? ⟨b,off+j,none⟩=some x) ∧
    ExL w ao1 cap1 e∧(bo.len≤cap2∧cap2≤maxLen∧(bo.len=0∨∃b' off',ao2=some ⟨b',off',none⟩∧StA w bo b' off')) ∧
    (el.len≤cap3∧cap3≤maxLen∧(el.len=0∨∃b' off',ao3=some ⟨b',off',none⟩∧StA w el b' off')))∧StA w r b (off+5)
def StL (w:World) (ao:Option Addr) (cap:Nat) (k:Sts):Prop :=
 k.len≤cap∧cap≤maxLen∧(k.len=0∨∃b off,ao=some ⟨b,off,none⟩∧StA w k b off)
def paC (p:Pa):List Value:=[ct p.name,ci p.type]
def PaL (w:World) (ao:Option Addr) (cap:Nat) (l:List Pa):Prop :=
 l.length≤cap∧cap≤maxLen∧(l=[]∨∃b off,ao=some ⟨b,off,none⟩∧∀(i:Nat) (p:Pa),l[i]?=some p→∀(j:Nat) (x:Value),(paC p)[j]?=some x→w.cell? ⟨b,off+i*2+j,none⟩=some x)
def DeI (w:World) (d:De) (pv ev bv:Value):Prop :=
 ∃ao1 cap1 ao2 cap2 ao3 cap3,pv = .slice ao1 d.params.length cap1∧ev = .slice ao2 d.e.len cap2∧bv = .slice ao3 d.body.len cap3∧PaL w ao1 cap1 d.params∧ExL w ao2 cap2 d.e∧StL w ao3 cap3 d.body
def deC (d:De) (pv ev bv:Value):List Value:=[ci d.kind,.bool d.ex,ct d.name,ci d.type,pv,ev,bv]
abbrev deV (d:De) (pv ev bv:Value):Value:=.agg #[ci d.kind,.bool d.ex,ct d.name,ci d.type,pv,ev,bv]
def DeL (w:World) (ao:Option Addr) (cap:Nat) (l:List De):Prop :=
 l.length≤cap∧cap≤maxLen∧(l=[]∨∃b off,ao=some ⟨b,off,none⟩∧∀(i:Nat) (d:De),l[i]?=some d→∃pv ev bv,DeI w d pv ev bv∧∀(j:Nat) (x:Value),(deC d pv ev bv)[j]?=some x→w.cell? ⟨b,off+i*7+j,none⟩=some x)
def SvL (w:World) (ao:Option Addr) (cap:Nat) (l:List Bs):Prop :=
 l.length≤cap∧cap≤maxLen∧(l=[]∨∃b off,ao=some ⟨b,off,none⟩∧∀(i:Nat) (x:Bs),l[i]?=some x→w.cell? ⟨b,off+i,none⟩=some (ct x))
abbrev moV (m:Mo) (ao:Option Addr) (cap:Nat) (ao':Option Addr) (cap':Nat):Value:=.agg #[ct m.name,.slice ao m.imports.length cap,.slice ao' m.decls.length cap']
def MoI (w:World) (m:Mo) (v:Value):Prop:=∃ao cap ao' cap',v=moV m ao cap ao' cap'∧SvL w ao cap m.imports∧DeL w ao' cap' m.decls
def ExI (w:World) (h:EH) (k:Exs) (v:Value):Prop:=∃ao cap,v=exV h (.slice ao k.len cap)∧ExL w ao cap k
theorem ExA.keep {w w':World} (hf:Fr (fun _=>False) w w'):∀(k:Exs) (b off:Nat),ExA w k b off→ExA w' k b off
 | .nil,_,_,_=>trivial
 | .cons h k r,b,off,⟨⟨ao,cap,h1,h2,h3,h4⟩,h5⟩=>by
   refine ⟨⟨ao,cap,fun j x hx=>hf.cellN (h1 j x hx),h2,h3,?_⟩,ExA.keep hf r b _ h5⟩
   rcases h4 with h4 | ⟨b',off',rfl,h4⟩
   ·exact Or.inl h4
   ·exact Or.inr ⟨b',off',rfl,ExA.keep hf k b' off' h4⟩
theorem ExL.keep {w w':World} {ao:Option Addr} {cap:Nat} {k:Exs} (h:ExL w ao cap k) (hf:Fr (fun _=>False) w w'):ExL w' ao cap k:=by
 obtain ⟨h1,h2,h3⟩:=h
 refine ⟨h1,h2,?_⟩
 rcases h3 with h3 | ⟨b,off,rfl,h3⟩
 ·exact Or.inl h3
 ·exact Or.inr ⟨b,off,rfl,ExA.keep hf k b off h3⟩
theorem StA.keep {w w':World} (hf:Fr (fun _=>False) w w'):∀(k:Sts) (b off:Nat),StA w k b off→StA w' k b off
 | .nil,_,_,_=>trivial
 | .cons h e bo el r,b,off,⟨⟨ao1,cap1,ao2,cap2,ao3,cap3,h1,h2,⟨h3,h4,h5⟩,⟨h6,h7,h8⟩⟩,h9⟩=>by
   refine ⟨⟨ao1,cap1,ao2,cap2,ao3,cap3,fun j x hx=>hf.cellN (h1 j x hx),h2.keep hf,⟨h3,h4,?_⟩,⟨h6,h7,?_⟩⟩,StA.keep hf r b _ h9⟩
   ·rcases h5 with h5 | ⟨b',off',rfl,h5⟩
    ·exact Or.inl h5
    ·exact Or.inr ⟨b',off',rfl,StA.keep hf bo b' off' h5⟩
   ·rcases h8 with h8 | ⟨b',off',rfl,h8⟩
    ·exact Or.inl h8
    ·exact Or.inr ⟨b',off',rfl,StA.keep hf el b' off' h8⟩
theorem StL.keep {w w':World} {ao:Option Addr} {cap:Nat} {k:Sts} (h:StL w ao cap k) (hf:Fr (fun _=>False) w w'):StL w' ao cap k:=by
 obtain ⟨h1,h2,h3⟩:=h
 refine ⟨h1,h2,?_⟩
 rcases h3 with h3 | ⟨b,off,rfl,h3⟩
 ·exact Or.inl h3
 ·exact Or.inr ⟨b,off,rfl,StA.keep hf k b off h3⟩
theorem PaL.keep {w w':World} {ao:Option Addr} {cap:Nat} {l:List Pa} (h:PaL w ao cap l) (hf:Fr (fun _=>False) w w'):PaL w' ao cap l:=by
 obtain ⟨h1,h2,h3⟩:=h
 refine ⟨h1,h2,?_⟩
 rcases h3 with h3 | ⟨b,off,rfl,h3⟩
 ·exact Or.inl h3
 ·exact Or.inr ⟨b,off,rfl,fun i p hp j x hx=>hf.cellN (h3 i p hp j x hx)⟩
theorem DeI.keep {w w':World} {d:De} {pv ev bv:Value} (h:DeI w d pv ev bv) (hf:Fr (fun _=>False) w w'):DeI w' d pv ev bv:=by
 obtain ⟨ao1,cap1,ao2,cap2,ao3,cap3,h1,h2,h3,h4,h5,h6⟩:=h
 exact ⟨ao1,cap1,ao2,cap2,ao3,cap3,h1,h2,h3,h4.keep hf,h5.keep hf,h6.keep hf⟩
theorem DeL.keep {w w':World} {ao:Option Addr} {cap:Nat} {l:List De} (h:DeL w ao cap l) (hf:Fr (fun _=>False) w w'):DeL w' ao cap l:=by
 obtain ⟨h1,h2,h3⟩:=h
 refine ⟨h1,h2,?_⟩
 rcases h3 with h3 | ⟨b,off,rfl,h3⟩
 ·exact Or.inl h3
 ·refine Or.inr ⟨b,off,rfl,fun i d hd=>?_⟩
  obtain ⟨pv,ev,bv,hi,hc⟩:=h3 i d hd
  exact ⟨pv,ev,bv,hi.keep hf,fun j x hx=>hf.cellN (hc j x hx)⟩
theorem SvL.keep {w w':World} {ao:Option Addr} {cap:Nat} {l:List Bs} (h:SvL w ao cap l) (hf:Fr (fun _=>False) w w'):SvL w' ao cap l:=by
 obtain ⟨h1,h2,h3⟩:=h
 refine ⟨h1,h2,?_⟩
 rcases h3 with h3 | ⟨b,off,rfl,h3⟩
 ·exact Or.inl h3
 ·exact Or.inr ⟨b,off,rfl,fun i x hx=>hf.cellN (h3 i x hx)⟩
theorem MoI.keep {w w':World} {m:Mo} {v:Value} (h:MoI w m v) (hf:Fr (fun _=>False) w w'):MoI w' m v:=by
 obtain ⟨ao,cap,ao',cap',h1,h2,h3⟩:=h
 exact ⟨ao,cap,ao',cap',h1,h2.keep hf,h3.keep hf⟩
def I64 (z:Int):Prop:=-9223372036854775808≤z∧z≤9223372036854775807
def OkN (l:Bs):Prop:=l.length≤9223372036854775807
structure OkE (h:EH):Prop where
 kind:I64 h.kind
 op:I64 h.op
 vt:I64 h.vt
 vb0:0≤h.vb
 vb1:h.vb<18446744073709551616
 mod:OkN h.mod
 name:OkN h.name
def OkX:Exs→Prop
 | .nil=>True
 | .cons h k r=>OkE h∧OkX k∧OkX r
def OkS:Sts→Prop
 | .nil=>True
 | .cons h e b l r=>I64 h.kind∧OkN h.name∧OkX e∧OkS b∧OkS l∧OkS r
structure OkD (d:De):Prop where
 kind:I64 d.kind
 type:I64 d.type
 name:OkN d.name
 params:∀p∈d.params,OkN p.name∧I64 p.type
 e:OkX d.e
 body:OkS d.body
structure OkM (m:Mo):Prop where
 name:OkN m.name
 imports:∀x∈m.imports,OkN x
 decls:∀d∈m.decls,OkD d
end
section
open Go.RowKit Te
theorem ex_box {w:World} {b:Nat} {x0 x1 x2 x3 x4 x5 x6:Value} {t:TypeId} (hb:w.heap[b]?=some (.cells #[x0,x1,x2,x3,x4,x5,x6] t (0,0))) :
 w.cell? ⟨b,0,none⟩=some x0∧w.cell? ⟨b,1,none⟩=some x1∧w.cell? ⟨b,2,none⟩=some x2∧w.cell? ⟨b,3,none⟩=some x3∧w.cell? ⟨b,4,none⟩=some x4∧w.cell? ⟨b,5,none⟩=some x5∧w.cell? ⟨b,6,none⟩=some x6 :=
 ⟨cell_of_row _ _ 0 _ _ _ hb,cell_of_row _ _ 1 _ _ _ hb,cell_of_row _ _ 2 _ _ _ hb,cell_of_row _ _ 3 _ _ _ hb,cell_of_row _ _ 4 _ _ _ hb,cell_of_row _ _ 5 _ _ _ hb,cell_of_row _ _ 6 _ _ _ hb⟩
theorem st_box {w:World} {b:Nat} {x0 x1 x2 x3 x4:Value} {t:TypeId} (hb:w.heap[b]?=some (.cells #[x0,x1,x2,x3,x4] t (0,0))) :
 w.cell? ⟨b,0,none⟩=some x0∧w.cell? ⟨b,1,none⟩=some x1∧w.cell? ⟨b,2,none⟩=some x2∧w.cell? ⟨b,3,none⟩=some x3∧w.cell? ⟨b,4,none⟩=some x4 :=
 ⟨cell_of_row _ _ 0 _ _ _ hb,cell_of_row _ _ 1 _ _ _ hb,cell_of_row _ _ 2 _ _ _ hb,cell_of_row _ _ 3 _ _ _ hb,cell_of_row _ _ 4 _ _ _ hb⟩
theorem ex_row {w:World} {h:EH} {k r:Exs} {b off:Nat} (hA:ExA w (.cons h k r) b off) :
 ∃ao cap,ExL w ao cap k∧ExA w r b (off+7)∧w.cell? ⟨b,off,none⟩=some (ci h.kind)∧w.cell? ⟨b,off+1,none⟩=some (ci h.op)∧w.cell? ⟨b,off+2,none⟩=some (ct h.mod)∧w.cell? ⟨b,off+3,none⟩=some (ct h.name) ∧
  w.cell? ⟨b,off+4,none⟩=some (ci h.vt)∧w.cell? ⟨b,off+5,none⟩=some (.int .u64 h.vb)∧w.cell? ⟨b,off+6,none⟩=some (.slice ao k.len cap):=by
 obtain ⟨⟨ao,cap,h1,h2,h3,h4⟩,h5⟩:=hA
 exact ⟨ao,cap,⟨h2,h3,h4⟩,h5,h1 0 _ rfl,h1 1 _ rfl,h1 2 _ rfl,h1 3 _ rfl,h1 4 _ rfl,h1 5 _ rfl,h1 6 _ rfl⟩
theorem st_row {w:World} {h:SH} {e:Exs} {bo el r:Sts} {b off:Nat} (hA:StA w (.cons h e bo el r) b off) :
 ∃ao1 cap1 ao2 cap2 ao3 cap3,ExL w ao1 cap1 e∧StL w ao2 cap2 bo∧StL w ao3 cap3 el∧StA w r b (off+5)∧w.cell? ⟨b,off,none⟩=some (ci h.kind)∧w.cell? ⟨b,off+1,none⟩=some (ct h.name)∧w.cell? ⟨b,off+2,none⟩=some (.slice ao1 e.len cap1) ∧
  w.cell? ⟨b,off+3,none⟩=some (.slice ao2 bo.len cap2)∧w.cell? ⟨b,off+4,none⟩=some (.slice ao3 el.len cap3):=by
 obtain ⟨⟨ao1,cap1,ao2,cap2,ao3,cap3,h1,h2,h3,h4⟩,h5⟩:=hA
 exact ⟨ao1,cap1,ao2,cap2,ao3,cap3,h2,h3,h4,h5,h1 0 _ rfl,h1 1 _ rfl,h1 2 _ rfl,h1 3 _ rfl,h1 4 _ rfl⟩
def ExR (w:World) (ao:Option Addr) (i:Nat) (r:Exs):Prop:=r.len=0∨∃b off,ao=some ⟨b,off,none⟩∧ExA w r b (off+i*7)
def StR (w:World) (ao:Option Addr) (i:Nat) (r:Sts):Prop:=r.len=0∨∃b off,ao=some ⟨b,off,none⟩∧StA w r b (off+i*5)
theorem ExL.rest {w:World} {ao:Option Addr} {cap:Nat} {k:Exs} (h:ExL w ao cap k):ExR w ao 0 k:=by
 rcases h.2.2 with h | ⟨b,off,h1,h2⟩
 ·exact Or.inl h
 ·exact Or.inr ⟨b,off,h1,by simpa using h2⟩
theorem StL.rest {w:World} {ao:Option Addr} {cap:Nat} {k:Sts} (h:StL w ao cap k):StR w ao 0 k:=by
 rcases h.2.2 with h | ⟨b,off,h1,h2⟩
 ·exact Or.inl h
 ·exact Or.inr ⟨b,off,h1,by simpa using h2⟩
theorem ExR.next {w:World} {ao:Option Addr} {i:Nat} {h:EH} {k r:Exs} (hR:ExR w ao i (.cons h k r)) :
 ∃b off ao' cap',ao=some ⟨b,off,none⟩∧ExL w ao' cap' k∧ExR w ao (i+1) r∧w.cell? ⟨b,off+i*7,none⟩=some (ci h.kind)∧w.cell? ⟨b,off+i*7+1,none⟩=some (ci h.op)∧w.cell? ⟨b,off+i*7+2,none⟩=some (ct h.mod)∧w.cell? ⟨b,off+i*7+3,none⟩=some (ct h.name) ∧
  w.cell? ⟨b,off+i*7+4,none⟩=some (ci h.vt)∧w.cell? ⟨b,off+i*7+5,none⟩=some (.int .u64 h.vb)∧w.cell? ⟨b,off+i*7+6,none⟩=some (.slice ao' k.len cap'):=by
 rcases hR with h | ⟨b,off,h1,h2⟩
 ·simp [Exs.len] at h
 ·obtain ⟨ao',cap',h3,h4,h5⟩:=ex_row h2
  exact ⟨b,off,ao',cap',h1,h3,Or.inr ⟨b,off,h1,by rw [show off+(i+1)*7=off+i*7+7 by omega];exact h4⟩,h5⟩
theorem StR.next {w:World} {ao:Option Addr} {i:Nat} {h:SH} {e:Exs} {bo el r:Sts} (hR:StR w ao i (.cons h e bo el r)) :
 ∃b off ao1 cap1 ao2 cap2 ao3 cap3,ao=some ⟨b,off,none⟩∧ExL w ao1 cap1 e∧StL w ao2 cap2 bo∧StL w ao3 cap3 el∧StR w ao (i+1) r∧w.cell? ⟨b,off+i*5,none⟩=some (ci h.kind)∧w.cell? ⟨b,off+i*5+1,none⟩=some (ct h.name)∧w.cell? ⟨b,off+i*5+2,none⟩=some (.slice ao1 e.len cap1) ∧
  w.cell? ⟨b,off+i*5+3,none⟩=some (.slice ao2 bo.len cap2)∧w.cell? ⟨b,off+i*5+4,none⟩=some (.slice ao3 el.len cap3):=by
 rcases hR with h | ⟨b,off,h1,h2⟩
 ·simp [Sts.len] at h
 ·obtain ⟨ao1,cap1,ao2,cap2,ao3,cap3,h3,h4,h5,h6,h7⟩:=st_row h2
  exact ⟨b,off,ao1,cap1,ao2,cap2,ao3,cap3,h1,h3,h4,h5,Or.inr ⟨b,off,h1,by rw [show off+(i+1)*5=off+i*5+5 by omega];exact h6⟩,h7⟩
theorem lv2_any (op r:Int) (hr:Hidden (lv2 op=r)) (w:World):Calls Tryz.prog 180 #[ci op] w fun e w'=>e = .returned (ci r)∧w'=w:=by
 go_enter Tryz.func180,Tryz.ntmps180
 go_wp2
 all_goals (go_ret;refine ⟨?_,rfl⟩;rw [←(show lv2 op=r from hr)];clear hr)
 all_goals (simp only [beq_iff_eq,beq_eq_false_iff_ne,ne_eq] at *;unfold lv2)
 all_goals (first | (subst_vars;rfl) | (repeat' split)<;>first | rfl | omega)
theorem lv2_range (op:Int):1≤lv2 op∧lv2 op≤7:=by
 unfold lv2
 repeat' split
 all_goals omega
theorem side_any (own:Int) (i:Nat) (r:Int) (hr:Hidden (side own (decide (i=0))=r)) (h0:1≤own) (h1:own≤7) (w:World):Calls Tryz.prog 181 #[ci own,ci (i:Int)] w fun e w'=>e = .returned (ci r)∧w'=w:=by
 obtain rfl | rfl | rfl | rfl | rfl | rfl | rfl:own=1∨own=2∨own=3∨own=4∨own=5∨own=6∨own=7:=by omega
 all_goals
  go_enter Tryz.func181,Tryz.ntmps181
  go_wp2
  all_goals (go_ret;refine ⟨?_,rfl⟩;rw [←(show side _ (decide (i=0))=r from hr)];clear hr h0 h1)
  all_goals (simp only [decide_eq_true_eq,decide_eq_false_iff_not] at *)
  all_goals (first | rfl | (have hi:i≠0:=(by omega);simp [side,hi]) | (have hi:i=0:=(by omega);subst hi;rfl))
theorem kp_any (h:EH) (kv:Value) (hkv:∃ao n cap,kv = .slice ao n cap) (i:Nat) (l d:Int) (hl:Hidden (kidL h (decide (i=0))=l)) (hd:Hidden (kidD h=d)) (w:World) :
 Calls Tryz.prog 146 #[exV h kv,ci (i:Int)] w fun e w'=>e = .returned (.tuple #[ci l,ci d])∧Fr (fun _=>False) w w':=by
 obtain ⟨ao,n,cap,rfl⟩:=hkv
 obtain ⟨kind,op,mod,name,vt,vb⟩:=h
 have k1:=fun w=>lv2_any op _ rfl w
 have k2:=fun w=>side_any (lv2 op) i _ rfl (lv2_range op).1 (lv2_range op).2 w
 go_enter Tryz.func146,Tryz.ntmps146
 go_wp2_with (first
  | (go_at_call 180;refine (k1 _).mono ?_;rintro e w' ⟨rfl,rfl⟩)
  | (go_at_call 181;refine (k2 _).mono ?_;rintro e w' ⟨rfl,rfl⟩))
 all_goals (go_ret2;refine ⟨?_,Fr.alloc _ _ _⟩;rw [←(show kidL _ _=l from hl),←(show kidD _=d from hd)];clear hl hd k1 k2)
 all_goals (simp only [beq_iff_eq,beq_eq_false_iff_ne,ne_eq] at *)
 all_goals (subst_vars;simp [kidL,kidD, *])
theorem level_any (h:EH) (kv:Value) (hkv:∃ao n cap,kv = .slice ao n cap) (l:Int) (hl:Hidden (level h=l)) (w:World) :
 Calls Tryz.prog 145 #[exV h kv] w fun e w'=>e = .returned (ci l)∧Fr (fun _=>False) w w':=by
 obtain ⟨ao,n,cap,rfl⟩:=hkv
 obtain ⟨kind,op,mod,name,vt,vb⟩:=h
 have k1:=fun w=>lv2_any op _ rfl w
 go_enter Tryz.func145,Tryz.ntmps145
 go_wp2_with (go_at_call 180;refine (k1 _).mono ?_;rintro e w' ⟨rfl,rfl⟩)
 all_goals (go_ret;refine ⟨?_,Fr.alloc _ _ _⟩;rw [←(show level _=l from hl)];clear hl k1)
 all_goals (simp only [beq_iff_eq,beq_eq_false_iff_ne,ne_eq] at *)
 all_goals (subst_vars;simp [level, *])
def DepthC (h:EH) (k:Exs):Prop:=∀(least a R:Int) (ao:Option Addr) (cap:Nat) (w:World),Hidden (dX h k least a=R)→ExL w ao cap k →
 Calls Tryz.prog 98 #[exV h (.slice ao k.len cap),ci least,ci a] w fun e w'=>e = .returned (ci R)∧Fr (fun _=>False) w w'
theorem depth_step (h:EH) (k:Exs) (ih:∀h' k',k'.size<k.size→DepthC h' k'):DepthC h k:=by
 intro least a R ao cap w hR hk
 have hrest:=hk.rest
 obtain ⟨hcap,hmax,_⟩:=hk
 have klev:=fun w=>level_any h (.slice ao k.len cap) ⟨_,_,_,rfl⟩ _ rfl w
 have hbx:Hidden ((w.alloc (.cells #[ci h.kind,ci h.op,ct h.mod,ct h.name,ci h.vt,.int .u64 h.vb,.slice ao k.len cap] 59)).heap[w.heap.size]?=some (.cells #[ci h.kind,ci h.op,ct h.mod,ct h.name,ci h.vt,.int .u64 h.vb,.slice ao k.len cap] 59 (0,0))):=alloc_new _ _
 have hfr0:Fr (fun _=>False) w (w.alloc (.cells #[ci h.kind,ci h.op,ct h.mod,ct h.name,ci h.vt,.int .u64 h.vb,.slice ao k.len cap] 59)):=Fr.alloc _ _ _
 generalize hb0:w.alloc (.cells #[ci h.kind,ci h.op,ct h.mod,ct h.name,ci h.vt,.int .u64 h.vb,.slice ao k.len cap] 59)=W0 at hbx hfr0
 have hb0H:Hidden (w.alloc (.cells #[ci h.kind,ci h.op,ct h.mod,ct h.name,ci h.vt,.int .u64 h.vb,.slice ao k.len cap] 59)=W0):=hb0
 clear hb0
 obtain ⟨a1,ha1⟩:∃a1,inAt h least a=a1:=⟨_,rfl⟩
 have hR1:Hidden (dK h k true a1 a1=R):=by rw [←ha1];exact hR
 have hin:(level h<least∧Hidden (wrap64 (a+1)=a1))∨(¬level h<least∧Hidden (a=a1)):=by
  by_cases hlv:level h<least
  ·exact Or.inl ⟨hlv,by rw [←ha1];simp [Hidden,inAt,hlv]⟩
  ·exact Or.inr ⟨hlv,by rw [←ha1];simp [Hidden,inAt,hlv]⟩
 clear ha1 hR
 have hlen:k.len≤9223372036854775807:=by unfold maxLen at hmax;omega
 rcases hin with ⟨hlv,e1⟩ | ⟨hlv,e1⟩
 all_goals
  go_enter Tryz.func98,Tryz.ntmps98
  go_wp2_with (go_at_call 145;refine (klev _).mono ?_;rw [show _=W0 from hb0H];rintro e W1 ⟨rfl,f1⟩;obtain ⟨c0,c1,c2,c3,c4,c5,c6⟩:=ex_box (f1.heap hbx (fun f=>f)))
  clear c0 c1 c2 c3 c4 c5 c6 hlv
  go_loopg [7,22] k.len (fun g lv iv wr=>∃(i:Nat) (r:Exs) (acc:Int),lv=ci acc∧iv=ci (i:Int)∧i+r.len=k.len∧r.size≤k.size∧ExR w ao i r∧dK h r (decide (i=0)) a1 acc=R∧g=r.len∧Fr (fun _=>False) W0 wr)
  case atStart=>exact ⟨0,k,a1,by rw [show _=a1 from e1],rfl,by omega,Nat.le_refl _,hrest,hR1,rfl,f1⟩
  case round =>
   obtain ⟨i,r,acc,rfl,rfl,hlen2,hsize,hrow,hdk,hgk,hfr⟩:=hrel
   have hgkH:Hidden (gk=r.len):=hgk
   have hdkH:Hidden (dK h r (decide (i=0)) a1 acc=R):=hdk
   have hlenH:Hidden (i+r.len=k.len):=hlen2
   clear hgk hdk hlen2 hrest
   cases r with
   | nil =>
     have hi:i=k.len:=hlenH
     subst hi
     have:acc=R:=hdkH
     subst this
     go_wp2_with fail
     go_ret
     exact ⟨rfl,hfr0.same hfr⟩
   | cons h' k' r' =>
     have hil:i<k.len:=by have:i+(r'.len+1)=k.len:=hlenH;omega
     obtain ⟨b,off,ao',cap',rfl,hL,hrow2,d0,d1,d2,d3,d4,d5,d6⟩:=hrow.next
     have fw:=hfr0.same hfr
     have d0:=fw.cellN d0
     have d1:=fw.cellN d1
     have d2:=fw.cellN d2
     have d3:=fw.cellN d3
     have d4:=fw.cellN d4
     have d5:=fw.cellN d5
     have d6:=fw.cellN d6
     have hbw:wr.heap[w.heap.size]?=some (.cells #[ci h.kind,ci h.op,ct h.mod,ct h.name,ci h.vt,.int .u64 h.vb,.slice (some ⟨b,off,none⟩) k.len cap] 59 (0,0)):=hfr.heap hbx (fun f=>f)
     have hbo:=fun o:Obj=>ex_box ((Fr.alloc (fun _=>False) wr o).heap hbw (fun f=>f))
     have kk:=fun w=>kp_any h (.slice (some ⟨b,off,none⟩) k.len cap) ⟨_,_,_,rfl⟩ i _ _ rfl rfl w
     have hs':k'.size<k.size:=by simp only [Exs.size] at hsize;omega
     have ke:=ih h' k' hs'
     unfold DepthC at ke
     go_wp2_with fail
     obtain ⟨c0,c1,c2,c3,c4,c5,c6⟩:=hbo (.cells #[ci h'.kind,ci h'.op,ct h'.mod,ct h'.name,ci h'.vt,.int .u64 h'.vb,.slice ao' k'.len cap'] 59)
     go_wp2_with fail
     go_at_call 146
     refine (kk _).mono ?_
     rintro e W2 ⟨rfl,f2⟩
     obtain ⟨e0,e1',e2,e3,e4,e5,e6⟩:=ex_box (f2.heap (alloc_new wr (.cells #[ci h'.kind,ci h'.op,ct h'.mod,ct h'.name,ci h'.vt,.int .u64 h'.vb,.slice ao' k'.len cap'] 59)) (fun f=>f))
     have f02:=hfr.same ((Fr.alloc _ wr _).same f2)
     go_wp2_with fail
     go_at_call 98
     refine (ke _ _ _ ao' cap' W2 rfl (hL.keep (hfr0.same f02))).mono ?_
     rintro e W3 ⟨rfl,f3⟩
     go_wp2_with fail
     all_goals
      go_roundg r'.len
      case measure =>
       have:gk=r'.len+1:=hgkH
       omega
      case rel =>
       refine ⟨i+1,r',_,rfl,by go_num,?_,?_,hrow2,?_,rfl,f02.same f3⟩
       ·have:i+(r'.len+1)=k.len:=hlenH
        omega
       ·simp only [Exs.size] at hsize;omega
       ·rw [show _=a1 from e1] at *
        rw [←(show _=R from hdkH),show decide (i+1=0)=false by simp]
        show dK _ r' false a1 _=dK _ r' false a1 (max acc (dX h' k' _ _))
        all_goals (congr 1<;>omega)
theorem depth_any (h:EH) (k:Exs):DepthC h k:=by
 have:∀(n:Nat) (h:EH) (k:Exs),k.size<n→DepthC h k:=by
  intro n
  induction n with
  | zero=>intro h k hk;omega
  | succ n ih=>intro h k hk;exact depth_step h k (fun h' k' hk'=>ih h' k' (by omega))
 exact this (k.size+1) h k (by omega)
end
section
open Go.RowKit Te
theorem ret_int {x y:Int} (h:x=y):Ending.returned (.int .i64 x) = .returned (.int .i64 y):=by rw [h]
theorem dL_cons (h:EH) (k r:Exs) (a acc:Int):dL (.cons h k r) a acc=dL r a (max acc (dX h k 1 a)):=rfl
theorem exprs_any (k:Exs) (a R:Int) (ao:Option Addr) (cap:Nat) (w:World) (hR:Hidden (dL k a a=R)) (hk:ExL w ao cap k) :
 Calls Tryz.prog 150 #[.slice ao k.len cap,ci a] w fun e w'=>e = .returned (ci R)∧Fr (fun _=>False) w w':=by
 have hrest:=hk.rest
 obtain ⟨hcap,hmax,_⟩:=hk
 have hlen:k.len≤9223372036854775807:=by unfold maxLen at hmax;omega
 go_enter Tryz.func150,Tryz.ntmps150
 go_wp2_with fail
 go_loopg [5,11] k.len (fun g lv iv wr=>∃(i:Nat) (r:Exs) (acc:Int),lv=ci acc∧iv=ci (i:Int)∧i+r.len=k.len∧ExR w ao i r∧dL r a acc=R∧g=r.len∧Fr (fun _=>False) w wr)
 case atStart=>exact ⟨0,k,a,rfl,rfl,by omega,hrest,hR,rfl,Fr.refl _ _⟩
 case round =>
  obtain ⟨i,r,acc,rfl,rfl,hlen2,hrow,hdk,hgk,hfr⟩:=hrel
  have hgkH:Hidden (gk=r.len):=hgk
  have hdkH:Hidden (dL r a acc=R):=hdk
  have hlenH:Hidden (i+r.len=k.len):=hlen2
  clear hgk hdk hlen2 hrest
  cases r with
  | nil =>
    have hi:i=k.len:=hlenH
    subst hi
    have:acc=R:=hdkH
    subst this
    go_wp2_with fail
    go_ret
    exact ⟨rfl,hfr⟩
  | cons h' k' r' =>
    have hil:i<k.len:=by have:i+(r'.len+1)=k.len:=hlenH;omega
    obtain ⟨b,off,ao',cap',rfl,hL,hrow2,d0,d1,d2,d3,d4,d5,d6⟩:=hrow.next
    have d0:=hfr.cellN d0
    have d1:=hfr.cellN d1
    have d2:=hfr.cellN d2
    have d3:=hfr.cellN d3
    have d4:=hfr.cellN d4
    have d5:=hfr.cellN d5
    have d6:=hfr.cellN d6
    have ke:=depth_any h' k'
    unfold DepthC at ke
    go_wp2_with fail
    go_at_call 98
    have f2:=hfr.same (Fr.alloc (fun _=>False) wr (.cells #[ci h'.kind,ci h'.op,ct h'.mod,ct h'.name,ci h'.vt,.int .u64 h'.vb,.slice ao' k'.len cap'] 59))
    refine (ke _ _ _ ao' cap' _ rfl (hL.keep f2)).mono ?_
    rintro e W3 ⟨rfl,f3⟩
    go_wp2_with fail
    all_goals
     go_roundg r'.len
     case measure =>
      have:gk=r'.len+1:=hgkH
      omega
     case rel =>
      refine ⟨i+1,r',_,rfl,by go_num,?_,hrow2,?_,rfl,f2.same f3⟩
      ·have:i+(r'.len+1)=k.len:=hlenH
       omega
      ·rw [←(show _=R from hdkH),dL_cons]
       all_goals (congr 1<;>omega)
theorem hasBody_any (kind:Int) (r:Bool) (hr:Hidden (hasBody kind=r)) (w:World):Calls Tryz.prog 219 #[ci kind] w fun e w'=>e = .returned (.bool r)∧w'=w:=by
 go_enter Tryz.func219,Tryz.ntmps219
 go_wp2
 all_goals (go_ret;refine ⟨?_,rfl⟩;rw [←(show hasBody kind=r from hr)];clear hr)
 all_goals (simp [hasBody, *])
def dSt (h:SH) (e:Exs) (b l:Sts) (a:Int):Int :=
 let x1:=dL e a a
 let x2:=if hasBody h.kind || decide (0<b.len) then max x1 (dS b (wrap64 (a+1)) (wrap64 (a+1))) else x1
 if h.kind=8∨0<l.len then max x2 (dS l (wrap64 (a+1)) (wrap64 (a+1))) else x2
theorem dS_cons (h:SH) (e:Exs) (b l r:Sts) (a acc:Int):dS (.cons h e b l r) a acc=dS r a (max acc (dSt h e b l a)):=rfl
def BlockC (k:Sts):Prop:=∀(a R:Int) (ao:Option Addr) (cap:Nat) (w:World),Hidden (dS k a a=R)→StL w ao cap k →
 Calls Tryz.prog 151 #[.slice ao k.len cap,ci a] w fun e w'=>e = .returned (ci R)∧Fr (fun _=>False) w w'
theorem stmt_step (h:SH) (e:Exs) (b l:Sts) (kb:BlockC b) (kl:BlockC l) (a R:Int) (hR:Hidden (dSt h e b l a=R)) (ao1 ao2 ao3:Option Addr) (cap1 cap2 cap3:Nat) (w:World) (he:ExL w ao1 cap1 e) (hb:StL w ao2 cap2 b) (hl:StL w ao3 cap3 l) :
 Calls Tryz.prog 191 #[stV h (.slice ao1 e.len cap1) (.slice ao2 b.len cap2) (.slice ao3 l.len cap3),ci a] w fun e w'=>e = .returned (ci R)∧Fr (fun _=>False) w w':=by
 have hbx:Hidden ((w.alloc (.cells #[ci h.kind,ct h.name,.slice ao1 e.len cap1,.slice ao2 b.len cap2,.slice ao3 l.len cap3] 91)).heap[w.heap.size]?=some (.cells #[ci h.kind,ct h.name,.slice ao1 e.len cap1,.slice ao2 b.len cap2,.slice ao3 l.len cap3] 91 (0,0))):=alloc_new _ _
 have hfr0:Fr (fun _=>False) w (w.alloc (.cells #[ci h.kind,ct h.name,.slice ao1 e.len cap1,.slice ao2 b.len cap2,.slice ao3 l.len cap3] 91)):=Fr.alloc _ _ _
 have ke:=exprs_any e a _ ao1 cap1 _ rfl (he.keep hfr0)
 have kh:=fun w=>hasBody_any h.kind _ rfl w
 unfold BlockC at kb kl
 have hR1:Hidden ((if h.kind=8∨0<l.len then max (if hasBody h.kind || decide (0<b.len) then max (dL e a a) (dS b (wrap64 (a+1)) (wrap64 (a+1))) else dL e a a) (dS l (wrap64 (a+1)) (wrap64 (a+1))) else (if hasBody h.kind || decide (0<b.len) then max (dL e a a) (dS b (wrap64 (a+1)) (wrap64 (a+1))) else dL e a a))=R):=hR
 clear hR
 generalize hhb:hasBody h.kind=hbv at kh hR1
 have c1:cap1≤9223372036854775807:=by have:=he.2.1;unfold maxLen at this;omega
 have c2:cap2≤9223372036854775807:=by have:=hb.2.1;unfold maxLen at this;omega
 have c3:cap3≤9223372036854775807:=by have:=hl.2.1;unfold maxLen at this;omega
 have l1:=he.1
 have l2:=hb.1
 have l3:=hl.1
 clear hhb
 clear l1 l2 l3
 have tb:(hbv=true∧Hidden ((if hbv || decide (0<b.len) then max (dL e a a) (dS b (wrap64 (a+1)) (wrap64 (a+1))) else dL e a a)=max (dL e a a) (dS b (wrap64 (a+1)) (wrap64 (a+1))))) ∨
  (hbv=false∧0<b.len∧Hidden ((if hbv || decide (0<b.len) then max (dL e a a) (dS b (wrap64 (a+1)) (wrap64 (a+1))) else dL e a a)=max (dL e a a) (dS b (wrap64 (a+1)) (wrap64 (a+1))))) ∨
  (hbv=false∧¬0<b.len∧Hidden ((if hbv || decide (0<b.len) then max (dL e a a) (dS b (wrap64 (a+1)) (wrap64 (a+1))) else dL e a a)=dL e a a)):=by
  cases hbv
  ·by_cases hz:0<b.len
   ·exact Or.inr (Or.inl ⟨rfl,hz,by simp [Hidden,hz]⟩)
   ·exact Or.inr (Or.inr ⟨rfl,hz,by simp [Hidden,hz]⟩)
  ·exact Or.inl ⟨rfl,by simp [Hidden]⟩
 generalize hx2:(if hbv || decide (0<b.len) then max (dL e a a) (dS b (wrap64 (a+1)) (wrap64 (a+1))) else dL e a a)=x2 at tb hR1
 clear hx2
 have tl:((h.kind == 8)=true∧Hidden (max x2 (dS l (wrap64 (a+1)) (wrap64 (a+1)))=R))∨((h.kind == 8)=false∧0<l.len∧Hidden (max x2 (dS l (wrap64 (a+1)) (wrap64 (a+1)))=R))∨((h.kind == 8)=false∧¬0<l.len∧Hidden (x2=R)):=by
  by_cases h8:h.kind=8
  ·exact Or.inl ⟨by simp [h8],by rw [←(show _=R from hR1)];simp [Hidden,h8]⟩
  ·by_cases hz:0<l.len
   ·exact Or.inr (Or.inl ⟨by simp [h8],hz,by rw [←(show _=R from hR1)];simp [Hidden,h8,hz]⟩)
   ·exact Or.inr (Or.inr ⟨by simp [h8],hz,by rw [←(show _=R from hR1)];simp [Hidden,h8,hz]⟩)
 clear hR1
 rcases tb with ⟨rfl,ex2⟩ | ⟨rfl,tb,ex2⟩ | ⟨rfl,tb,ex2⟩<;>rcases tl with ⟨tl,eR⟩ | ⟨tl,tl2,eR⟩ | ⟨tl,tl2,eR⟩
 ·go_enter Tryz.func191,Tryz.ntmps191
  go_wp2_with fail
  go_at_call 150
  refine ke.mono ?_
  rintro ee W1 ⟨rfl,f1⟩
  obtain ⟨b0,b1,b2,b3,b4⟩:=st_box (f1.heap hbx (fun f=>f))
  have g1:=hfr0.same f1
  go_wp2_with fail
  go_at_call 219
  refine (kh _).mono ?_
  rintro ee W1x ⟨rfl,rfl⟩
  go_wp2_with fail
  go_at_call 151
  refine (kb _ _ ao2 cap2 _ rfl (hb.keep g1)).mono ?_
  rintro ee W2 ⟨rfl,f2⟩
  obtain ⟨b0,b1,b2,b3,b4⟩:=st_box (f2.heap (f1.heap hbx (fun f=>f)) (fun f=>f))
  have g2:=g1.same f2
  go_wp2_with fail
  all_goals
   go_at_call 151
   refine (kl _ _ ao3 cap3 _ rfl (hl.keep g2)).mono ?_
   rintro ee W3 ⟨rfl,f3⟩
   have g3:=g2.same f3
   go_wp2_with fail
   all_goals
    go_ret
    refine ⟨?_,g3⟩
    have ea:x2=_:=ex2
    have eb:_=R:=eR
    clear ke kb kl kh
    refine ret_int ?_
    omega
 ·go_enter Tryz.func191,Tryz.ntmps191
  go_wp2_with fail
  go_at_call 150
  refine ke.mono ?_
  rintro ee W1 ⟨rfl,f1⟩
  obtain ⟨b0,b1,b2,b3,b4⟩:=st_box (f1.heap hbx (fun f=>f))
  have g1:=hfr0.same f1
  go_wp2_with fail
  go_at_call 219
  refine (kh _).mono ?_
  rintro ee W1x ⟨rfl,rfl⟩
  go_wp2_with fail
  go_at_call 151
  refine (kb _ _ ao2 cap2 _ rfl (hb.keep g1)).mono ?_
  rintro ee W2 ⟨rfl,f2⟩
  obtain ⟨b0,b1,b2,b3,b4⟩:=st_box (f2.heap (f1.heap hbx (fun f=>f)) (fun f=>f))
  have g2:=g1.same f2
  go_wp2_with fail
  all_goals
   go_at_call 151
   refine (kl _ _ ao3 cap3 _ rfl (hl.keep g2)).mono ?_
   rintro ee W3 ⟨rfl,f3⟩
   have g3:=g2.same f3
   go_wp2_with fail
   all_goals
    go_ret
    refine ⟨?_,g3⟩
    have ea:x2=_:=ex2
    have eb:_=R:=eR
    clear ke kb kl kh
    refine ret_int ?_
    omega
 ·go_enter Tryz.func191,Tryz.ntmps191
  go_wp2_with fail
  go_at_call 150
  refine ke.mono ?_
  rintro ee W1 ⟨rfl,f1⟩
  obtain ⟨b0,b1,b2,b3,b4⟩:=st_box (f1.heap hbx (fun f=>f))
  have g1:=hfr0.same f1
  go_wp2_with fail
  go_at_call 219
  refine (kh _).mono ?_
  rintro ee W1x ⟨rfl,rfl⟩
  go_wp2_with fail
  go_at_call 151
  refine (kb _ _ ao2 cap2 _ rfl (hb.keep g1)).mono ?_
  rintro ee W2 ⟨rfl,f2⟩
  obtain ⟨b0,b1,b2,b3,b4⟩:=st_box (f2.heap (f1.heap hbx (fun f=>f)) (fun f=>f))
  have g2:=g1.same f2
  go_wp2_with fail
  all_goals
   go_ret
   refine ⟨?_,g2⟩
   have ea:x2=_:=ex2
   have eb:_=R:=eR
   clear ke kb kl kh
   refine ret_int ?_
   omega
 ·go_enter Tryz.func191,Tryz.ntmps191
  go_wp2_with fail
  go_at_call 150
  refine ke.mono ?_
  rintro ee W1 ⟨rfl,f1⟩
  obtain ⟨b0,b1,b2,b3,b4⟩:=st_box (f1.heap hbx (fun f=>f))
  have g1:=hfr0.same f1
  go_wp2_with fail
  go_at_call 219
  refine (kh _).mono ?_
  rintro ee W1x ⟨rfl,rfl⟩
  go_wp2_with fail
  go_at_call 151
  refine (kb _ _ ao2 cap2 _ rfl (hb.keep g1)).mono ?_
  rintro ee W2 ⟨rfl,f2⟩
  obtain ⟨b0,b1,b2,b3,b4⟩:=st_box (f2.heap (f1.heap hbx (fun f=>f)) (fun f=>f))
  have g2:=g1.same f2
  go_wp2_with fail
  all_goals
   go_at_call 151
   refine (kl _ _ ao3 cap3 _ rfl (hl.keep g2)).mono ?_
   rintro ee W3 ⟨rfl,f3⟩
   have g3:=g2.same f3
   go_wp2_with fail
   all_goals
    go_ret
    refine ⟨?_,g3⟩
    have ea:x2=_:=ex2
    have eb:_=R:=eR
    clear ke kb kl kh
    refine ret_int ?_
    omega
 ·go_enter Tryz.func191,Tryz.ntmps191
  go_wp2_with fail
  go_at_call 150
  refine ke.mono ?_
  rintro ee W1 ⟨rfl,f1⟩
  obtain ⟨b0,b1,b2,b3,b4⟩:=st_box (f1.heap hbx (fun f=>f))
  have g1:=hfr0.same f1
  go_wp2_with fail
  go_at_call 219
  refine (kh _).mono ?_
  rintro ee W1x ⟨rfl,rfl⟩
  go_wp2_with fail
  go_at_call 151
  refine (kb _ _ ao2 cap2 _ rfl (hb.keep g1)).mono ?_
  rintro ee W2 ⟨rfl,f2⟩
  obtain ⟨b0,b1,b2,b3,b4⟩:=st_box (f2.heap (f1.heap hbx (fun f=>f)) (fun f=>f))
  have g2:=g1.same f2
  go_wp2_with fail
  all_goals
   go_at_call 151
   refine (kl _ _ ao3 cap3 _ rfl (hl.keep g2)).mono ?_
   rintro ee W3 ⟨rfl,f3⟩
   have g3:=g2.same f3
   go_wp2_with fail
   all_goals
    go_ret
    refine ⟨?_,g3⟩
    have ea:x2=_:=ex2
    have eb:_=R:=eR
    clear ke kb kl kh
    refine ret_int ?_
    omega
 ·go_enter Tryz.func191,Tryz.ntmps191
  go_wp2_with fail
  go_at_call 150
  refine ke.mono ?_
  rintro ee W1 ⟨rfl,f1⟩
  obtain ⟨b0,b1,b2,b3,b4⟩:=st_box (f1.heap hbx (fun f=>f))
  have g1:=hfr0.same f1
  go_wp2_with fail
  go_at_call 219
  refine (kh _).mono ?_
  rintro ee W1x ⟨rfl,rfl⟩
  go_wp2_with fail
  go_at_call 151
  refine (kb _ _ ao2 cap2 _ rfl (hb.keep g1)).mono ?_
  rintro ee W2 ⟨rfl,f2⟩
  obtain ⟨b0,b1,b2,b3,b4⟩:=st_box (f2.heap (f1.heap hbx (fun f=>f)) (fun f=>f))
  have g2:=g1.same f2
  go_wp2_with fail
  all_goals
   go_ret
   refine ⟨?_,g2⟩
   have ea:x2=_:=ex2
   have eb:_=R:=eR
   clear ke kb kl kh
   refine ret_int ?_
   omega
 ·go_enter Tryz.func191,Tryz.ntmps191
  go_wp2_with fail
  go_at_call 150
  refine ke.mono ?_
  rintro ee W1 ⟨rfl,f1⟩
  obtain ⟨b0,b1,b2,b3,b4⟩:=st_box (f1.heap hbx (fun f=>f))
  have g1:=hfr0.same f1
  go_wp2_with fail
  go_at_call 219
  refine (kh _).mono ?_
  rintro ee W1x ⟨rfl,rfl⟩
  go_wp2_with fail
  go_at_call 151
  refine (kl _ _ ao3 cap3 _ rfl (hl.keep g1)).mono ?_
  rintro ee W3 ⟨rfl,f3⟩
  have g3:=g1.same f3
  go_wp2_with fail
  all_goals
   go_ret
   refine ⟨?_,g3⟩
   have ea:x2=_:=ex2
   have eb:_=R:=eR
   clear ke kb kl kh
   refine ret_int ?_
   omega
 ·go_enter Tryz.func191,Tryz.ntmps191
  go_wp2_with fail
  go_at_call 150
  refine ke.mono ?_
  rintro ee W1 ⟨rfl,f1⟩
  obtain ⟨b0,b1,b2,b3,b4⟩:=st_box (f1.heap hbx (fun f=>f))
  have g1:=hfr0.same f1
  go_wp2_with fail
  go_at_call 219
  refine (kh _).mono ?_
  rintro ee W1x ⟨rfl,rfl⟩
  go_wp2_with fail
  go_at_call 151
  refine (kl _ _ ao3 cap3 _ rfl (hl.keep g1)).mono ?_
  rintro ee W3 ⟨rfl,f3⟩
  have g3:=g1.same f3
  go_wp2_with fail
  all_goals
   go_ret
   refine ⟨?_,g3⟩
   have ea:x2=_:=ex2
   have eb:_=R:=eR
   clear ke kb kl kh
   refine ret_int ?_
   omega
 ·go_enter Tryz.func191,Tryz.ntmps191
  go_wp2_with fail
  go_at_call 150
  refine ke.mono ?_
  rintro ee W1 ⟨rfl,f1⟩
  obtain ⟨b0,b1,b2,b3,b4⟩:=st_box (f1.heap hbx (fun f=>f))
  have g1:=hfr0.same f1
  go_wp2_with fail
  go_at_call 219
  refine (kh _).mono ?_
  rintro ee W1x ⟨rfl,rfl⟩
  go_wp2_with fail
  go_ret
  refine ⟨?_,g1⟩
  have ea:x2=_:=ex2
  have eb:_=R:=eR
  clear ke kb kl kh
  refine ret_int ?_
  omega
theorem block_step (k:Sts) (ih:∀k':Sts,k'.size<k.size→BlockC k'):BlockC k:=by
 intro a R ao cap w hR hk
 have hrest:=hk.rest
 obtain ⟨hcap,hmax,_⟩:=hk
 have hlen:k.len≤9223372036854775807:=by unfold maxLen at hmax;omega
 go_enter Tryz.func151,Tryz.ntmps151
 go_wp2_with fail
 go_loopg [5,11] k.len (fun g lv iv wr=>∃(i:Nat) (r:Sts) (acc:Int),lv=ci acc∧iv=ci (i:Int)∧i+r.len=k.len∧r.size≤k.size∧StR w ao i r∧dS r a acc=R∧g=r.len∧Fr (fun _=>False) w wr)
 case atStart=>exact ⟨0,k,a,rfl,rfl,by omega,Nat.le_refl _,hrest,hR,rfl,Fr.refl _ _⟩
 case round =>
  obtain ⟨i,r,acc,rfl,rfl,hlen2,hsize,hrow,hdk,hgk,hfr⟩:=hrel
  have hgkH:Hidden (gk=r.len):=hgk
  have hdkH:Hidden (dS r a acc=R):=hdk
  have hlenH:Hidden (i+r.len=k.len):=hlen2
  clear hgk hdk hlen2 hrest
  cases r with
  | nil =>
    have hi:i=k.len:=hlenH
    subst hi
    have:acc=R:=hdkH
    subst this
    go_wp2_with fail
    go_ret
    exact ⟨rfl,hfr⟩
  | cons h' e' b' l' r' =>
    have hil:i<k.len:=by have:i+(r'.len+1)=k.len:=hlenH;omega
    obtain ⟨b,off,ao1,cap1,ao2,cap2,ao3,cap3,rfl,hL1,hL2,hL3,hrow2,d0,d1,d2,d3,d4⟩:=hrow.next
    have d0:=hfr.cellN d0
    have d1:=hfr.cellN d1
    have d2:=hfr.cellN d2
    have d3:=hfr.cellN d3
    have d4:=hfr.cellN d4
    have f2:=hfr.same (Fr.alloc (fun _=>False) wr (.cells #[ci h'.kind,ct h'.name,.slice ao1 e'.len cap1,.slice ao2 b'.len cap2,.slice ao3 l'.len cap3] 91))
    simp only [Sts.size] at hsize
    have ke:=stmt_step h' e' b' l' (ih b' (by omega)) (ih l' (by omega)) a _ rfl ao1 ao2 ao3 cap1 cap2 cap3 _ (hL1.keep f2) (hL2.keep f2) (hL3.keep f2)
    go_wp2_with fail
    go_at_call 191
    refine ke.mono ?_
    rintro e W3 ⟨rfl,f3⟩
    go_wp2_with fail
    all_goals
     go_roundg r'.len
     case measure =>
      have:gk=r'.len+1:=hgkH
      omega
     case rel =>
      refine ⟨i+1,r',_,rfl,by go_num,?_,by omega,hrow2,?_,rfl,f2.same f3⟩
      ·have:i+(r'.len+1)=k.len:=hlenH
       omega
      ·rw [←(show _=R from hdkH),dS_cons]
       all_goals (congr 1<;>omega)
theorem block_any (k:Sts):BlockC k:=by
 have:∀(n:Nat) (k:Sts),k.size<n→BlockC k:=by
  intro n
  induction n with
  | zero=>intro k hk;omega
  | succ n ih=>intro k hk;exact block_step k (fun k' hk'=>ih k' (by omega))
 exact this (k.size+1) k (by omega)
theorem decl_any (d:De) (pv ev bv:Value) (R:Int) (hR:Hidden (dD d=R)) (w:World) (hd:DeI w d pv ev bv) :
 Calls Tryz.prog 102 #[deV d pv ev bv] w fun e w'=>e = .returned (ci R)∧Fr (fun _=>False) w w':=by
 obtain ⟨ao1,cap1,ao2,cap2,ao3,cap3,rfl,rfl,rfl,hp,he,hb⟩:=hd
 have hbx:Hidden ((w.alloc (.cells #[ci d.kind,.bool d.ex,ct d.name,ci d.type,.slice ao1 d.params.length cap1,.slice ao2 d.e.len cap2,.slice ao3 d.body.len cap3] 51)).heap[w.heap.size]?=some (.cells #[ci d.kind,.bool d.ex,ct d.name,ci d.type,.slice ao1 d.params.length cap1,.slice ao2 d.e.len cap2,.slice ao3 d.body.len cap3] 51 (0,0))):=alloc_new _ _
 have hfr0:Fr (fun _=>False) w (w.alloc (.cells #[ci d.kind,.bool d.ex,ct d.name,ci d.type,.slice ao1 d.params.length cap1,.slice ao2 d.e.len cap2,.slice ao3 d.body.len cap3] 51)):=Fr.alloc _ _ _
 have ke:=exprs_any d.e 0 _ ao2 cap2 _ rfl (he.keep hfr0)
 have kb:=block_any d.body
 unfold BlockC at kb
 have c3:cap3≤9223372036854775807:=by have:=hb.2.1;unfold maxLen at this;omega
 have tb:((d.kind == 3)=true∧Hidden (max (dL d.e 0 0) (dS d.body 1 1)=R))∨((d.kind == 3)=false∧0<d.body.len∧Hidden (max (dL d.e 0 0) (dS d.body 1 1)=R))∨((d.kind == 3)=false∧¬0<d.body.len∧Hidden (dL d.e 0 0=R)):=by
  have hR1:dD d=R:=hR
  unfold dD at hR1
  by_cases h8:d.kind=3
  ·exact Or.inl ⟨by simp [h8],by rw [←hR1];simp [Hidden,h8]⟩
  ·by_cases hz:0<d.body.len
   ·exact Or.inr (Or.inl ⟨by simp [h8],hz,by rw [←hR1];simp [Hidden,h8,hz]⟩)
   ·exact Or.inr (Or.inr ⟨by simp [h8],hz,by rw [←hR1];simp [Hidden,h8,hz]⟩)
 clear hR
 rcases tb with ⟨tb,eR⟩ | ⟨tb,tb2,eR⟩ | ⟨tb,tb2,eR⟩
 ·go_enter Tryz.func102,Tryz.ntmps102
  go_wp2_with fail
  go_at_call 150
  refine ke.mono ?_
  rintro ee W1 ⟨rfl,f1⟩
  obtain ⟨b0,b1,b2,b3,b4,b5,b6⟩:=ex_box (f1.heap hbx (fun f=>f))
  have g1:=hfr0.same f1
  go_wp2_with fail
  go_at_call 151
  refine (kb _ _ ao3 cap3 _ rfl (hb.keep g1)).mono ?_
  rintro ee W2 ⟨rfl,f2⟩
  have g2:=g1.same f2
  go_wp2_with fail
  all_goals
   go_ret
   refine ⟨?_,g2⟩
   have eb:_=R:=eR
   clear ke kb
   refine ret_int ?_
   omega
 ·go_enter Tryz.func102,Tryz.ntmps102
  go_wp2_with fail
  go_at_call 150
  refine ke.mono ?_
  rintro ee W1 ⟨rfl,f1⟩
  obtain ⟨b0,b1,b2,b3,b4,b5,b6⟩:=ex_box (f1.heap hbx (fun f=>f))
  have g1:=hfr0.same f1
  go_wp2_with fail
  go_at_call 151
  refine (kb _ _ ao3 cap3 _ rfl (hb.keep g1)).mono ?_
  rintro ee W2 ⟨rfl,f2⟩
  have g2:=g1.same f2
  go_wp2_with fail
  all_goals
   go_ret
   refine ⟨?_,g2⟩
   have eb:_=R:=eR
   clear ke kb
   refine ret_int ?_
   omega
 ·go_enter Tryz.func102,Tryz.ntmps102
  go_wp2_with fail
  go_at_call 150
  refine ke.mono ?_
  rintro ee W1 ⟨rfl,f1⟩
  obtain ⟨b0,b1,b2,b3,b4,b5,b6⟩:=ex_box (f1.heap hbx (fun f=>f))
  have g1:=hfr0.same f1
  go_wp2_with fail
  go_ret
  exact ⟨ret_int eR,g1⟩
end
end Go.Proofs.YteijjaabngkbjaaGreatDoor
namespace Go.Proofs.YteijjaabngkbjaaGreatDoor.N
open Go.RowKit
def Hidden (p:Prop):Prop:=p
theorem alloc_old (w:World) (o:Obj) (k:Nat) (h:k<w.heap.size):(w.alloc o).heap[k]?=w.heap[k]?:=by
 show (w.heap.push o)[k]?=_
 rw [Array.getElem?_push_lt h]
 exact (Array.getElem?_eq_getElem h).symm
theorem alloc_new (w:World) (o:Obj):(w.alloc o).heap[w.heap.size]?=some o:=by
 show (w.heap.push o)[w.heap.size]?=_
 simp
structure Fr (S:Nat→Prop) (w w':World):Prop where
 os:w'.os=w.os
 output:w'.output=w.output
 size:w.heap.size≤w'.heap.size
 block:∀k,k<w.heap.size→¬S k→w'.heap[k]?=w.heap[k]?
theorem Fr.refl (S:Nat→Prop) (w:World):Fr S w w:=⟨rfl,rfl,Nat.le_refl _,fun _ _ _=>rfl⟩
theorem Fr.trans {S T:Nat→Prop} {a b c:World} (h:Fr S a b) (g:Fr T b c) (hT:∀k,k<a.heap.size→T k→S k):Fr S a c :=
 ⟨g.os.trans h.os,g.output.trans h.output,Nat.le_trans h.size g.size,fun k hk hn =>
   (g.block k (Nat.lt_of_lt_of_le hk h.size) (fun t=>hn (hT k hk t))).trans (h.block k hk hn)⟩
theorem Fr.mono {S T:Nat→Prop} {a b:World} (h:Fr S a b) (hT:∀k,k<a.heap.size→S k→T k):Fr T a b :=
 ⟨h.os,h.output,h.size,fun k hk hn=>h.block k hk (fun t=>hn (hT k hk t))⟩
theorem Fr.alloc (S:Nat→Prop) (w:World) (o:Obj):Fr S w (w.alloc o):=⟨rfl,rfl,by simp,fun k hk _=>alloc_old w o k hk⟩
theorem Fr.kept {w w':World} (h:Fr (fun _=>False) w w'):w.keptBut w' (fun _=>False) :=
 ⟨h.os,h.output,fun i hi=>by
   rw [h.block i hi (fun f=>f)]
   cases w.heap[i]? with
   | none=>rfl
   | some o=>cases o<;>simp⟩
theorem Fr.cell {S:Nat→Prop} {w w':World} (h:Fr S w w') {a:Addr} {v:Value} (hc:w.cell? a=some v) (hn:¬S a.block):w'.cell? a=some v :=
 (World.cell?_of_block (h.block a.block (World.block_lt_of_cell? w a hc) hn)).trans hc
theorem lt_of_heap {w:World} {k:Nat} {o:Obj} (h:w.heap[k]?=some o):k<w.heap.size:=(Array.getElem?_eq_some_iff.1 h).1
theorem Fr.heap {S:Nat→Prop} {w w':World} (h:Fr S w w') {k:Nat} {o:Obj} (hc:w.heap[k]?=some o) (hn:¬S k):w'.heap[k]?=some o :=
 (h.block k (lt_of_heap hc) hn).trans hc
def Sl (w:World) (v:Value) (xs:List Value):Prop :=
 ∃ao cap,v = .slice ao xs.length cap∧xs.length≤cap∧cap≤maxLen∧(ao=none→cap=0) ∧
  (xs=[]∨∃b off,ao=some ⟨b,off,none⟩∧∀(i:Nat) (x:Value),xs[i]?=some x→w.cell? ⟨b,off+i,none⟩=some x)
theorem Sl.nil (w:World):Sl w (.slice none 0 0) []:=⟨none,0,rfl,by simp,by simp,fun _=>rfl,Or.inl rfl⟩
end Go.Proofs.YteijjaabngkbjaaGreatDoor.N
namespace Go.Proofs.YteijjaabngkbjaaGreatDoor.N
abbrev Str:=List UInt8
end Go.Proofs.YteijjaabngkbjaaGreatDoor.N
namespace Go.Proofs.YteijjaabngkbjaaGreatDoor.N
open Go.RowKit Go.Sort
def Tl (w:World) (v:Value) (l:List Str):Prop :=
 ∃ao cap,v = .slice ao l.length cap∧l.length≤cap∧cap≤9223372036854775807∧(ao=none→cap=0) ∧
  (l=[]∨∃b off,ao=some ⟨b,off,none⟩∧∀(i:Nat) (x:Str),l[i]?=some x→w.cell? ⟨b,off+i,none⟩=some (encStr x))
def Tn (w:World) (B:Nat) (v:Value) (l:List Str):Prop :=
 ∃ao cap,v = .slice ao l.length cap∧l.length≤cap∧cap≤9223372036854775807∧(ao=none→cap=0) ∧
  (l=[]∨∃b off,ao=some ⟨b,off,none⟩∧B≤b∧b<w.heap.size∧Holds encStr w b off l.toArray)
theorem Tl.nil (w:World):Tl w (.slice none 0 0) []:=⟨none,0,rfl,by simp,by simp,fun _=>rfl,Or.inl rfl⟩
end Go.Proofs.YteijjaabngkbjaaGreatDoor.N
namespace Go.Proofs.YteijjaabngkbjaaGreatDoor.N
open Go.RowKit Go.Sort
def letB (n:Nat):Bool:=(decide (97≤n) && decide (n≤122)) || (decide (65≤n) && decide (n≤90)) || n == 95
def digB (n:Nat):Bool:=decide (48≤n) && decide (n≤57)
theorem ret_bool {a b:Bool} (h:a=true ↔ b=true):Ending.returned (.bool a) = .returned (.bool b):=by rw [Bool.eq_iff_iff.2 h]
theorem letter_any (n:Nat) (r:Bool) (hr:Hidden (letB n=r)) (w:World) :
 Calls Tryz.prog 189 #[.int .u8 (n:Int)] w fun e w'=>e = .returned (.bool r)∧w'=w:=by
 go_enter Tryz.func189,Tryz.ntmps189
 go_wp2
 all_goals (go_ret;refine ⟨?_,rfl⟩;rw [←(show letB n=r from hr)];clear hr;refine ret_bool ?_;simp [letB];try omega)
theorem digit_any (n:Nat) (r:Bool) (hr:Hidden (digB n=r)) (w:World) :
 Calls Tryz.prog 190 #[.int .u8 (n:Int)] w fun e w'=>e = .returned (.bool r)∧w'=w:=by
 go_enter Tryz.func190,Tryz.ntmps190
 go_wp2
 all_goals (go_ret;refine ⟨?_,rfl⟩;rw [←(show digB n=r from hr)];clear hr;refine ret_bool ?_;simp [digB];try omega)
end Go.Proofs.YteijjaabngkbjaaGreatDoor.N
namespace Go.Proofs.YteijjaabngkbjaaGreatDoor.N
open Go.RowKit Go.Sort
theorem str_len (t:List UInt8):((⟨t.toArray⟩:ByteArray).size:Int)=(t.length:Int):=by simp [ByteArray.size]
theorem str_index (l:List UInt8) (k:Nat) (c:UInt8) (h:l[k]?=some c) (w:World) :
 (Instr.index 9 (.string ⟨l.toArray⟩) (.int .i64 (k:Int))).run Tryz.prog w = .ok (.int .u8 (c.toNat:Int)) w:=by
 obtain ⟨hk,hc⟩:=List.getElem?_eq_some_iff.1 h
 have hs:k<(⟨l.toArray⟩:ByteArray).size:=by simpa [ByteArray.size] using hk
 rw [run_index_string _ _ _ _ _ Tryz.underlying9,dif_pos ⟨by omega,by omega⟩]
 have e:(⟨l.toArray⟩:ByteArray)[k]'hs=c:=by
  show l.toArray[k]=c
  simpa using hc
 simp only [Int.toNat_natCast]
 rw [e]
theorem drop_at {α:Type} {l:List α} {j:Nat} {c:α} (h:l[j]?=some c):l.drop j=c::l.drop (j+1):=by
 obtain ⟨hj,rfl⟩:=List.getElem?_eq_some_iff.1 h
 exact List.drop_eq_getElem_cons hj
theorem frozen_of_row {w:World} {g:Nat} {cur:Array Value} {e:TypeId} (h:w.heap[g]?=some (.cells cur e (0,0))) (j:Nat):w.frozen? ⟨g,j,none⟩=false:=by simp [World.frozen?,h]
def wordsL:List Str:=[[98,111,111,108],[99,97,116,99,104],[99,111,110,115,116],[101,108,115,101],[101,120,112,111,114,116],[102,97,105,108],[102,97,108,115,101],[102,108,111,97,116],[102,110],[105,102],[105,109,112,111,114,116],[105,110,102],[105,110,112,117,116],[105,110,116],[108,101,116],[109,111,100,117,108,101],[110,97,110],[114,101,116,117,114,110],[115,104,111,119],[116,114,117,101],[116,114,121],[118,97,114],[119,104,105,108,101]]
theorem Tn.words (w:World):Tn (w.alloc (.cells (wordsL.map encStr).toArray 9)) w.heap.size (.slice (some ⟨w.heap.size,0,none⟩) 23 23) wordsL:=by
 refine ⟨_,23,rfl,by decide,by omega,(fun h=>by cases h),Or.inr ⟨w.heap.size,0,rfl,Nat.le_refl _,by simp,fun j hj=>?_⟩⟩
 have hb:=alloc_new w (.cells (wordsL.map encStr).toArray 9)
 have hj':j<wordsL.length:=by simpa using hj
 constructor
 ·rw [Nat.zero_add,cell_of_row _ _ _ _ _ _ hb,getElem!_pos _ j hj]
  simp [hj']
 ·exact frozen_of_row hb _
def okAt (i:Nat) (c:UInt8):Bool:=letB c.toNat || (i != 0 && digB c.toNat)
def speltGo:List UInt8→Nat→Bool
 | [],_=>true
 | c::r,i=>okAt i c && speltGo r (i+1)
def speltS (s:Str):Bool:=speltGo s 0 && !s.isEmpty
theorem spelt_walk (l:Str) (v:Bool) (hl:l.length≤9223372036854775807) (hv:Hidden (speltGo l 0=v)) (w:World) :
 Calls Tryz.prog 149 #[.string ⟨l.toArray⟩] w fun e w'=>e = .returned (.bool (v && !l.isEmpty))∧w'=w:=by
 have hs:=str_len l
 go_enter Tryz.func149,Tryz.ntmps149
 go_wp2
 go_loopg [6] l.length (fun k iv wr=>∃j:Nat,iv = .int .i64 (j:Int)∧j≤l.length∧speltGo (l.drop j) j=v∧k=l.length - j∧wr=w)
 case atStart=>exact ⟨0,rfl,by omega,hv,rfl,rfl⟩
 case round =>
  obtain ⟨j,rfl,hj,hf,hgk,rfl⟩:=hrel
  have hgkH:Hidden (gk=l.length - j):=hgk
  clear hgk
  by_cases hjl:j<l.length
  ·obtain ⟨c,hc⟩:∃c,l[j]?=some c:=⟨l[j],List.getElem?_eq_getElem hjl⟩
   rw [drop_at hc,speltGo] at hf
   have hx:=str_index l j c hc
   have kl:=letter_any c.toNat _ rfl
   have kd:=digit_any c.toNat _ rfl
   have hno:l.isEmpty=false:=by cases l with
    | nil=>simp at hc
    | cons a b=>rfl
   unfold okAt at hf
   obtain ⟨m,hm⟩:∃m,c.toNat=m:=⟨_,rfl⟩
   rw [hm] at hx kl kd hf
   clear hm hc hv
   cases hlt:letB m
   ·rw [hlt] at kl hf
    clear hlt
    cases hdg:digB m
    ·rw [hdg] at kd hf
     simp only [Bool.false_or,Bool.and_false,Bool.false_and] at hf
     subst hf
     clear hdg
     by_cases h0:j=0
     ·have h0':((j:Int) == 0)=true:=by simp [h0]
      clear h0
      go_wp2_with (first | (go_at_call 189;refine (kl _).mono ?_;rintro e w' ⟨rfl,rfl⟩) | (go_at_call 190;refine (kd _).mono ?_;rintro e w' ⟨rfl,rfl⟩))
      go_ret
      exact ⟨rfl,rfl⟩
     ·have h0':((j:Int) == 0)=false:=by simp;omega
      go_wp2_with (first | (go_at_call 189;refine (kl _).mono ?_;rintro e w' ⟨rfl,rfl⟩) | (go_at_call 190;refine (kd _).mono ?_;rintro e w' ⟨rfl,rfl⟩))
      go_ret
      exact ⟨rfl,rfl⟩
    ·rw [hdg] at kd hf
     simp only [Bool.false_or,Bool.and_true] at hf
     clear hdg
     by_cases h0:j=0
     ·have h0':((j:Int) == 0)=true:=by simp [h0]
      have h00:(j != 0)=false:=by simp [h0]
      rw [h00,Bool.false_and] at hf
      subst hf
      clear h0 h00
      go_wp2_with (first | (go_at_call 189;refine (kl _).mono ?_;rintro e w' ⟨rfl,rfl⟩) | (go_at_call 190;refine (kd _).mono ?_;rintro e w' ⟨rfl,rfl⟩))
      go_ret
      exact ⟨rfl,rfl⟩
     ·have h0':((j:Int) == 0)=false:=by simp;omega
      have h00:(j != 0)=true:=by simp [h0]
      rw [h00,Bool.true_and] at hf
      have hfH:Hidden (speltGo (l.drop (j+1)) (j+1)=v):=hf
      clear hf h00
      go_wp2_with (first | (go_at_call 189;refine (kl _).mono ?_;rintro e w' ⟨rfl,rfl⟩) | (go_at_call 190;refine (kd _).mono ?_;rintro e w' ⟨rfl,rfl⟩))
      go_roundg (l.length - (j+1))
      case measure =>
       have:gk=l.length - j:=hgkH
       omega
      case rel=>exact ⟨j+1,by go_num,by omega,hfH,rfl,rfl⟩
   ·rw [hlt] at kl hf
    simp only [Bool.true_or,Bool.true_and] at hf
    have hfH:Hidden (speltGo (l.drop (j+1)) (j+1)=v):=hf
    clear hf hlt
    go_wp2_with (first | (go_at_call 189;refine (kl _).mono ?_;rintro e w' ⟨rfl,rfl⟩) | (go_at_call 190;refine (kd _).mono ?_;rintro e w' ⟨rfl,rfl⟩))
    go_roundg (l.length - (j+1))
    case measure =>
     have:gk=l.length - j:=hgkH
     omega
    case rel=>exact ⟨j+1,by go_num,by omega,hfH,rfl,rfl⟩
  ·obtain rfl:j=l.length:=by omega
   rw [List.drop_length] at hf
   obtain rfl:true=v:=hf
   clear hv
   go_wp2
   go_ret
   refine ⟨?_,rfl⟩
   cases l with
   | nil=>rfl
   | cons a b=>rfl
theorem spelt_any (l:Str) (v:Bool) (hv:speltS l=v) (hl:l.length≤9223372036854775807) (w:World) :
 Calls Tryz.prog 149 #[.string ⟨l.toArray⟩] w fun e w'=>e = .returned (.bool v)∧w'=w:=hv ▸ spelt_walk l _ hl rfl w
theorem reserved_in (s:Str) (h:s∈wordsL) (w:World) :
 Calls Tryz.prog 120 #[.string ⟨s.toArray⟩] w fun e w'=>e = .returned (.bool true)∧w'=w:=by
 simp only [wordsL,List.mem_cons,List.not_mem_nil,or_false] at h
 rcases h with rfl | rfl | rfl | rfl | rfl | rfl | rfl | rfl | rfl | rfl | rfl | rfl | rfl | rfl | rfl | rfl | rfl | rfl | rfl | rfl | rfl | rfl | rfl
 all_goals
  go_enter Tryz.func120,Tryz.ntmps120
  go_wp2
  go_ret
  exact ⟨rfl,rfl⟩
theorem reserved_out (s:Str) (h:s ∉ wordsL) (w:World) :
 Calls Tryz.prog 120 #[.string ⟨s.toArray⟩] w fun e w'=>e = .returned (.bool false)∧w'=w:=by
 have h0:(s == [98,111,111,108])=false:=beq_eq_false_iff_ne.2 (fun e=>h (e ▸ (by decide)))
 have h1:(s == [99,97,116,99,104])=false:=beq_eq_false_iff_ne.2 (fun e=>h (e ▸ (by decide)))
 have h2:(s == [99,111,110,115,116])=false:=beq_eq_false_iff_ne.2 (fun e=>h (e ▸ (by decide)))
 have h3:(s == [101,108,115,101])=false:=beq_eq_false_iff_ne.2 (fun e=>h (e ▸ (by decide)))
 have h4:(s == [101,120,112,111,114,116])=false:=beq_eq_false_iff_ne.2 (fun e=>h (e ▸ (by decide)))
 have h5:(s == [102,97,105,108])=false:=beq_eq_false_iff_ne.2 (fun e=>h (e ▸ (by decide)))
 have h6:(s == [102,97,108,115,101])=false:=beq_eq_false_iff_ne.2 (fun e=>h (e ▸ (by decide)))
 have h7:(s == [102,108,111,97,116])=false:=beq_eq_false_iff_ne.2 (fun e=>h (e ▸ (by decide)))
 have h8:(s == [102,110])=false:=beq_eq_false_iff_ne.2 (fun e=>h (e ▸ (by decide)))
 have h9:(s == [105,102])=false:=beq_eq_false_iff_ne.2 (fun e=>h (e ▸ (by decide)))
 have h10:(s == [105,109,112,111,114,116])=false:=beq_eq_false_iff_ne.2 (fun e=>h (e ▸ (by decide)))
 have h11:(s == [105,110,102])=false:=beq_eq_false_iff_ne.2 (fun e=>h (e ▸ (by decide)))
 have h12:(s == [105,110,112,117,116])=false:=beq_eq_false_iff_ne.2 (fun e=>h (e ▸ (by decide)))
 have h13:(s == [105,110,116])=false:=beq_eq_false_iff_ne.2 (fun e=>h (e ▸ (by decide)))
 have h14:(s == [108,101,116])=false:=beq_eq_false_iff_ne.2 (fun e=>h (e ▸ (by decide)))
 have h15:(s == [109,111,100,117,108,101])=false:=beq_eq_false_iff_ne.2 (fun e=>h (e ▸ (by decide)))
 have h16:(s == [110,97,110])=false:=beq_eq_false_iff_ne.2 (fun e=>h (e ▸ (by decide)))
 have h17:(s == [114,101,116,117,114,110])=false:=beq_eq_false_iff_ne.2 (fun e=>h (e ▸ (by decide)))
 have h18:(s == [115,104,111,119])=false:=beq_eq_false_iff_ne.2 (fun e=>h (e ▸ (by decide)))
 have h19:(s == [116,114,117,101])=false:=beq_eq_false_iff_ne.2 (fun e=>h (e ▸ (by decide)))
 have h20:(s == [116,114,121])=false:=beq_eq_false_iff_ne.2 (fun e=>h (e ▸ (by decide)))
 have h21:(s == [118,97,114])=false:=beq_eq_false_iff_ne.2 (fun e=>h (e ▸ (by decide)))
 have h22:(s == [119,104,105,108,101])=false:=beq_eq_false_iff_ne.2 (fun e=>h (e ▸ (by decide)))
 clear h
 go_enter Tryz.func120,Tryz.ntmps120
 go_wp2
 go_ret
 exact ⟨rfl,rfl⟩
theorem reserved_any (s:Str) (r:Bool) (hr:decide (s∈wordsL)=r) (w:World) :
 Calls Tryz.prog 120 #[.string ⟨s.toArray⟩] w fun e w'=>e = .returned (.bool r)∧w'=w:=by
 subst hr
 by_cases h:s∈wordsL
 ·rw [decide_eq_true h];exact reserved_in s h w
 ·rw [decide_eq_false h];exact reserved_out s h w
end Go.Proofs.YteijjaabngkbjaaGreatDoor.N
namespace Go.Proofs.YteijjaabngkbjaaGreatDoor.N
open Go.RowKit Go.Sort
def rightS (s:Str):Int:=if speltS s=true then (if 32<s.length then 3 else if s∈wordsL then 12 else 0) else 12
theorem right_any (s:Str) (r:Int) (hr:rightS s=r) (hl:s.length≤9223372036854775807) (w:World) :
 Calls Tryz.prog 101 #[.string ⟨s.toArray⟩] w fun e w'=>e = .returned (.int .i64 r)∧w'=w:=by
 have ks:=spelt_any s _ rfl hl
 have hs:=str_len s
 unfold rightS at hr
 cases hsp:speltS s
 ·rw [hsp] at ks hr
  simp only [Bool.false_eq_true,if_false] at hr
  subst hr
  clear hsp
  go_enter Tryz.func101,Tryz.ntmps101
  go_wp2_with (go_at_call 149;refine (ks _).mono ?_;rintro e w' ⟨rfl,rfl⟩)
  go_ret
  exact ⟨rfl,rfl⟩
 ·rw [hsp] at ks hr
  rw [if_pos rfl] at hr
  clear hsp
  by_cases h32:32<s.length
  ·rw [if_pos h32] at hr
   subst hr
   go_enter Tryz.func101,Tryz.ntmps101
   go_wp2_with (go_at_call 149;refine (ks _).mono ?_;rintro e w' ⟨rfl,rfl⟩)
   go_ret
   exact ⟨rfl,rfl⟩
  ·rw [if_neg h32] at hr
   have kr:=reserved_any s _ rfl
   by_cases hw:s∈wordsL
   ·rw [if_pos hw] at hr
    rw [decide_eq_true hw] at kr
    subst hr
    clear hw
    go_enter Tryz.func101,Tryz.ntmps101
    go_wp2_with (first | (go_at_call 149;refine (ks _).mono ?_;rintro e w' ⟨rfl,rfl⟩) | (go_at_call 120;refine (kr _).mono ?_;rintro e w' ⟨rfl,rfl⟩))
    go_ret
    exact ⟨rfl,rfl⟩
   ·rw [if_neg hw] at hr
    rw [decide_eq_false hw] at kr
    subst hr
    clear hw
    go_enter Tryz.func101,Tryz.ntmps101
    go_wp2_with (first | (go_at_call 149;refine (ks _).mono ?_;rintro e w' ⟨rfl,rfl⟩) | (go_at_call 120;refine (kr _).mono ?_;rintro e w' ⟨rfl,rfl⟩))
    go_ret
    exact ⟨rfl,rfl⟩
end Go.Proofs.YteijjaabngkbjaaGreatDoor.N
namespace Go.Proofs.YteijjaabngkbjaaGreatDoor.N
open Go.RowKit Go.Sort
def ld (c:UInt8):Bool:=letB c.toNat || digB c.toNat
theorem speltGo_all:∀(r:Str) (i:Nat),speltGo r (i+1)=r.all ld
 | [],_=>rfl
 | c::r,i=>by
   rw [speltGo,speltGo_all r (i+1),List.all_cons]
   rfl
theorem spelt_cons (s:Str) (c:UInt8) (h:s[0]?=some c):speltS s=(letB c.toNat && s.all ld):=by
 cases s with
 | nil=>simp at h
 | cons d r =>
   have:d=c:=by simpa using h
   subst this
   show (speltGo (d::r) 0 && !(d::r).isEmpty)=_
   rw [speltGo,speltGo_all,List.all_cons]
   show ((letB d.toNat || (0 != 0 && digB d.toNat)) && r.all ld && true)=(letB d.toNat && ((letB d.toNat || digB d.toNat) && r.all ld))
   cases letB d.toNat<;>simp
end Go.Proofs.YteijjaabngkbjaaGreatDoor.N
namespace Go.Proofs.YteijjaabngkbjaaGreatDoor.N
open Go.RowKit Go.Sort
theorem append_str (a b:Str):(⟨a.toArray⟩:ByteArray)++⟨b.toArray⟩=⟨(a++b).toArray⟩:=by
 rw [ByteArray.mk_append_mk]
theorem far_any (a b:Str) (h:a.length+b.length+1≤9223372036854775807) (w:World) :
 Calls Tryz.prog 184 #[.string ⟨a.toArray⟩,.string ⟨b.toArray⟩] w fun e w'=>e = .returned (.string ⟨(a++46::b).toArray⟩)∧w'=w:=by
 have h1:∀w,(Op.stringOp .add ⟨a.toArray⟩ ⟨#[46]⟩).run Tryz.prog w = .ok (.string ⟨(a++[46]).toArray⟩) w:=fun w=>by
  rw [run_string_add_sum w _ _ (by simp [ByteArray.size];omega)]
  exact congrArg (fun x=>Result.ok (Value.string x) w) (append_str a [46])
 have h2:∀w,(Op.stringOp .add ⟨(a++[46]).toArray⟩ ⟨b.toArray⟩).run Tryz.prog w = .ok (.string ⟨(a++46::b).toArray⟩) w:=fun w=>by
  rw [run_string_add_sum w _ _ (by simp [ByteArray.size];omega),append_str]
  simp
 go_enter Tryz.func184,Tryz.ntmps184
 go_wp2
 go_ret
 exact ⟨rfl,rfl⟩
end Go.Proofs.YteijjaabngkbjaaGreatDoor.N
