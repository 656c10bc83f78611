/- PwA PwB PwR PwC Shelf3 PwD -/
import Derived.Test.YteijjaabngkbjaaGreatDoorLxAll
import Derived.Test.YteijjaabngkbjaaGreatDoorPsJB
import Derived.Test.YteijjaabngkbjaaGreatDoorNyAB
import Derived.Maps.AppendAt
import Derived.Shelf.Strings.Builder1
import Derived.Shelf.Strings.Builder2
import Derived.Shelf.Strings.OnBuilder
import Derived.Shelf.Small.Bits
import Derived.Shelf.Small.Strs
import Derived.Shelf.Small.Wraps
import Derived.Shelf.Strconv.Itoa0
import Derived.Shelf.Strconv.Itoa1
import Derived.Shelf.LaysM
import Derived.Shelf.Strconv.Itoa2
import Derived.Shelf.Strconv.Itoa3
import Derived.Shelf.Strconv.Itoa4
import Derived.Shelf.Strings.Search1
import Derived.Shelf.Strings.Search2
import Derived.Shelf.Strings.Prefix
import Derived.Shelf.Bits.Mul64
import Derived.Test.YteijjaabngkbjaaGreatDoorProg
import Derived.Test.YteijjaabngkbjaaGreatDoorIyAB
set_option maxRecDepth 100000
set_option maxHeartbeats 40000000
set_option linter.unusedVariables false
set_option linter.unusedSimpArgs false
set_option linter.unusedSectionVars false
namespace Go.Proofs.YteijjaabngkbjaaGreatDoor
open Go.RowKit Lx Te
abbrev pp (q:Nat):Value:=.pointer (some ⟨q,0,none⟩)
abbrev psO (v:Value) (d:Nat) (fl:Bool):Obj:=.cells #[v,ci (d:Int),.bool fl] 146 (0,0)
def Tq (q:Nat) (w:World):Prop:=∀w',Fr (fun k=>q≤k) w w'→F.Tab w'
theorem Tq.step {q:Nat} {S:Nat→Prop} {w w':World} (h:Tq q w) (hf:Fr S w w') (hS:∀k,S k→q≤k):Tq q w' :=
 fun w'' hf'=>h w'' ((hf.mono (fun k _ hk=>hS k hk)).same hf')
theorem Tq.of {q:Nat} {w w':World} (h:F.Tab w) (hf:Fr (fun _=>False) w w') (hq:w.heap.size≤q):Tq q w' :=
 fun w'' hf'=>tab_fr h (hf.trans hf' (fun k hk hs=>by omega))
def Ps (w:World) (q:Nat) (ts:List Tok) (d:Nat) (fl:Bool):Prop :=
 Tq q w∧∃g off cap,w.heap[q]?=some (psO (.slice (some ⟨g,off,none⟩) ts.length cap) d fl)∧g<q∧ts.length≤cap∧cap≤maxLen ∧
  ∀(i:Nat) (t:Tok),ts[i]?=some t→∀(j:Nat) (x:Value),(tokC t)[j]?=some x→w.cell? ⟨g,off+i*5+j,none⟩=some x
theorem Ps.keepN {w w':World} {q:Nat} {ts:List Tok} {d:Nat} {fl:Bool} (h:Ps w q ts d fl) (hf:Fr (fun _=>False) w w'):Ps w' q ts d fl:=by
 obtain ⟨hTq,g,off,cap,h1,h2,h3,h4,h5⟩:=h
 exact ⟨hTq.step hf (fun _ f=>f.elim),g,off,cap,hf.heap h1 (fun f=>f),h2,h3,h4,fun i t ht j x hx=>hf.cellN (h5 i t ht j x hx)⟩
theorem Ps.lt {w:World} {q:Nat} {ts:List Tok} {d:Nat} {fl:Bool} (h:Ps w q ts d fl):q<w.heap.size:=by
 obtain ⟨hTq,g,off,cap,h1,_⟩:=h
 exact lt_of_heap h1
theorem Ps.set {w w':World} {q:Nat} {ts:List Tok} {d d':Nat} {fl fl':Bool} (h:Ps w q ts d fl) (hf:Fr (fun k=>k=q) w w') (hw:∀v,w.heap[q]?=some (psO v d fl)→w'.heap[q]?=some (psO v d' fl')):Ps w' q ts d' fl':=by
 obtain ⟨hTq,g,off,cap,h1,h2,h3,h4,h5⟩:=h
 exact ⟨hTq.step hf (fun k hk=>by subst hk;exact Nat.le_refl _),g,off,cap,hw _ h1,h2,h3,h4,fun i t ht j x hx=>hf.cell (h5 i t ht j x hx) (by show g≠q;omega)⟩
theorem Ps.high {S:Nat→Prop} {w w':World} {q:Nat} {ts:List Tok} {d:Nat} {fl:Bool} (h:Ps w q ts d fl) (hf:Fr S w w') (hS:∀k,S k→q<k):Ps w' q ts d fl:=by
 obtain ⟨hTq,g,off,cap,h1,h2,h3,h4,h5⟩:=h
 exact ⟨hTq.step hf (fun k hk=>Nat.le_of_lt (hS k hk)),g,off,cap,hf.heap h1 (fun f=>by have:=hS q f;omega),h2,h3,h4,fun i t ht j x hx=>hf.cell (h5 i t ht j x hx) (fun f=>by have:=hS g f;omega)⟩
theorem Fr.put (w:World) (g off:Nat) (v:Value):Fr (fun k=>k=g) w (w.setCell ⟨g,off,none⟩ v):=Fr.setCell w ⟨g,off,none⟩ v
theorem set2_fr (w:World) (g:Nat) (v0 v1:Value):Fr (fun k=>k=g) w ((w.setCell ⟨g,0,none⟩ v0).setCell ⟨g,1,none⟩ v1):=(Fr.put w g 0 v0).same (Fr.put _ g 1 v1)
theorem set3_fr (w:World) (g:Nat) (v0 v1 v2:Value):Fr (fun k=>k=g) w (((w.setCell ⟨g,0,none⟩ v0).setCell ⟨g,1,none⟩ v1).setCell ⟨g,2,none⟩ v2):=(set2_fr w g v0 v1).same (Fr.put _ g 2 v2)
theorem set4_fr (w:World) (g:Nat) (v0 v1 v2 v3:Value):Fr (fun k=>k=g) w ((((w.setCell ⟨g,0,none⟩ v0).setCell ⟨g,1,none⟩ v1).setCell ⟨g,2,none⟩ v2).setCell ⟨g,3,none⟩ v3):=(set3_fr w g v0 v1 v2).same (Fr.put _ g 3 v3)
theorem set5_fr (w:World) (g:Nat) (v0 v1 v2 v3 v4:Value):Fr (fun k=>k=g) w (((((w.setCell ⟨g,0,none⟩ v0).setCell ⟨g,1,none⟩ v1).setCell ⟨g,2,none⟩ v2).setCell ⟨g,3,none⟩ v3).setCell ⟨g,4,none⟩ v4):=(set4_fr w g v0 v1 v2 v3).same (Fr.put _ g 4 v4)
theorem set6_fr (w:World) (g:Nat) (v0 v1 v2 v3 v4 v5:Value):Fr (fun k=>k=g) w ((((((w.setCell ⟨g,0,none⟩ v0).setCell ⟨g,1,none⟩ v1).setCell ⟨g,2,none⟩ v2).setCell ⟨g,3,none⟩ v3).setCell ⟨g,4,none⟩ v4).setCell ⟨g,5,none⟩ v5):=(set5_fr w g v0 v1 v2 v3 v4).same (Fr.put _ g 5 v5)
theorem set7_fr (w:World) (g:Nat) (v0 v1 v2 v3 v4 v5 v6:Value):Fr (fun k=>k=g) w (((((((w.setCell ⟨g,0,none⟩ v0).setCell ⟨g,1,none⟩ v1).setCell ⟨g,2,none⟩ v2).setCell ⟨g,3,none⟩ v3).setCell ⟨g,4,none⟩ v4).setCell ⟨g,5,none⟩ v5).setCell ⟨g,6,none⟩ v6):=(set6_fr w g v0 v1 v2 v3 v4 v5).same (Fr.put _ g 6 v6)
theorem set_seven {w:World} {g:Nat} {a b c d e f h:Value} {t:TypeId} (hg:w.heap[g]?=some (.cells #[a,b,c,d,e,f,h] t (0,0))) (v0 v1 v2 v3 v4 v5 v6:Value) :
 (((((((w.setCell ⟨g,0,none⟩ v0).setCell ⟨g,1,none⟩ v1).setCell ⟨g,2,none⟩ v2).setCell ⟨g,3,none⟩ v3).setCell ⟨g,4,none⟩ v4).setCell ⟨g,5,none⟩ v5).setCell ⟨g,6,none⟩ v6).heap[g]?=some (.cells #[v0,v1,v2,v3,v4,v5,v6] t (0,0)):=by
 have h1:(w.setCell ⟨g,0,none⟩ v0).heap[g]?=some (.cells #[v0,b,c,d,e,f,h] t (0,0)):=heap_setCell_same _ g 0 _ t v0 hg
 have h2:((w.setCell ⟨g,0,none⟩ v0).setCell ⟨g,1,none⟩ v1).heap[g]?=some (.cells #[v0,v1,c,d,e,f,h] t (0,0)):=heap_setCell_same _ g 1 _ t v1 h1
 have h3:(((w.setCell ⟨g,0,none⟩ v0).setCell ⟨g,1,none⟩ v1).setCell ⟨g,2,none⟩ v2).heap[g]?=some (.cells #[v0,v1,v2,d,e,f,h] t (0,0)):=heap_setCell_same _ g 2 _ t v2 h2
 have h4:((((w.setCell ⟨g,0,none⟩ v0).setCell ⟨g,1,none⟩ v1).setCell ⟨g,2,none⟩ v2).setCell ⟨g,3,none⟩ v3).heap[g]?=some (.cells #[v0,v1,v2,v3,e,f,h] t (0,0)):=heap_setCell_same _ g 3 _ t v3 h3
 have h5:(((((w.setCell ⟨g,0,none⟩ v0).setCell ⟨g,1,none⟩ v1).setCell ⟨g,2,none⟩ v2).setCell ⟨g,3,none⟩ v3).setCell ⟨g,4,none⟩ v4).heap[g]?=some (.cells #[v0,v1,v2,v3,v4,f,h] t (0,0)):=heap_setCell_same _ g 4 _ t v4 h4
 have h6:((((((w.setCell ⟨g,0,none⟩ v0).setCell ⟨g,1,none⟩ v1).setCell ⟨g,2,none⟩ v2).setCell ⟨g,3,none⟩ v3).setCell ⟨g,4,none⟩ v4).setCell ⟨g,5,none⟩ v5).heap[g]?=some (.cells #[v0,v1,v2,v3,v4,v5,h] t (0,0)):=heap_setCell_same _ g 5 _ t v5 h5
 have h7:(((((((w.setCell ⟨g,0,none⟩ v0).setCell ⟨g,1,none⟩ v1).setCell ⟨g,2,none⟩ v2).setCell ⟨g,3,none⟩ v3).setCell ⟨g,4,none⟩ v4).setCell ⟨g,5,none⟩ v5).setCell ⟨g,6,none⟩ v6).heap[g]?=some (.cells #[v0,v1,v2,v3,v4,v5,v6] t (0,0)):=heap_setCell_same _ g 6 _ t v6 h6
 exact h7
theorem post_one {fn:Func} {R:Ending→World→Prop} {a:Act} {w:World} {v:Value} (hr:(results fn a.tmps).run Tryz.prog w = .ok v w) (hd:a.defers=[]) (hR:R (.returned v) w):bodyPost Tryz.prog fn R .ret a w:=⟨hd,_,hr,hR⟩
theorem info_fault:(Tryz.prog.info? 110).map (·.size)=some 2:=by kernel_rfl
theorem fr_set1 {S:Nat→Prop} {w w':World} {b:Nat} (h:Fr S w w') (hb:w.heap.size≤b) (off:Nat) (v:Value):Fr S w (w'.setCell ⟨b,off,none⟩ v) :=
 h.over (Fr.setCell w' ⟨b,off,none⟩ v) (fun k hk=>by have:k=b:=hk;omega)
theorem Ps.head {w:World} {q:Nat} {t:Tok} {r:List Tok} {d:Nat} {fl:Bool} (h:Ps w q (t::r) d fl):∃g off cap,w.heap[q]?=some (psO (.slice (some ⟨g,off,none⟩) (r.length+1) cap) d fl)∧g<q∧r.length+1≤cap∧cap≤9223372036854775807 ∧
 w.cell? ⟨g,off,none⟩=some (.int .i64 (t.k:Int))∧w.cell? ⟨g,off+1,none⟩=some (.string ⟨t.x.toArray⟩)∧w.cell? ⟨g,off+2,none⟩=some (.int .i64 t.ty)∧w.cell? ⟨g,off+3,none⟩=some (.int .u64 t.b)∧w.cell? ⟨g,off+4,none⟩=some (.int .i64 (t.p:Int)) ∧
 (∀(i:Nat) (u:Tok),r[i]?=some u→∀(j:Nat) (x:Value),(tokC u)[j]?=some x→w.cell? ⟨g,off+5+i*5+j,none⟩=some x):=by
 obtain ⟨hTq,g,off,cap,h1,h2,h3,h4,h5⟩:=h
 have h0:=h5 0 t rfl
 refine ⟨g,off,cap,h1,h2,h3,by unfold maxLen at h4;omega,by simpa using h0 0 _ rfl,by simpa using h0 1 _ rfl,by simpa using h0 2 _ rfl,by simpa using h0 3 _ rfl,by simpa using h0 4 _ rfl,fun i u hu j x hx=>?_⟩
 have:=h5 (i+1) u (by simpa using hu) j x hx
 rw [show off+5+i*5+j=off+(i+1)*5+j by omega]
 exact this
abbrev tok0:Obj:=.cells #[.int .i64 0,.string ⟨#[]⟩,.int .i64 0,.int .u64 0,.int .i64 0] 42 (0,0)
theorem next_any (q:Nat) (t:Tok) (r:List Tok) (d:Nat) (fl:Bool) (w:World) (h:Ps w q (t::r) d fl) :
 Calls Tryz.prog 111 #[pp q] w fun e w'=>e = .returned (.agg #[.int .i64 (t.k:Int),.string ⟨t.x.toArray⟩,.int .i64 t.ty,.int .u64 t.b,.int .i64 (t.p:Int)])∧Fr (fun _=>False) w w':=by
 obtain ⟨g,off,cap,h1,h2,h3,h4,c0,c1,c2,c3,c4,_⟩:=h.head
 have f0:=Fr.alloc (fun _=>False) w tok0
 have z0:(w.alloc tok0).cell? ⟨q,0,none⟩=some (.slice (some ⟨g,off,none⟩) (r.length+1) cap):=cell_of_row _ _ 0 _ _ _ (f0.heap h1 (fun f=>f))
 have e0:=f0.cellN c0
 have e1:=f0.cellN c1
 have e2:=f0.cellN c2
 have e3:=f0.cellN c3
 have e4:=f0.cellN c4
 clear c0 c1 c2 c3 c4 h1
 have hz:(0:Int)<((r.length+1:Nat):Int):=by omega
 go_enter Tryz.func111,Tryz.ntmps111
 go_wp2_with fail
 exact post_one (results_cell_row rfl _ _ _ _ _ _ _ rfl (alloc_new _ _) Tryz.underlying42 rfl info_tok) rfl ⟨rfl,Fr.alloc _ _ _⟩
theorem fld0 (a b c d e:Value) (w:World):(Instr.field 42 (.agg #[a,b,c,d,e]) 0).run Tryz.prog w = .ok a w:=by kernel_rfl
theorem fld1 (a b c d e:Value) (w:World):(Instr.field 42 (.agg #[a,b,c,d,e]) 1).run Tryz.prog w = .ok b w:=by kernel_rfl
theorem fld2 (a b c d e:Value) (w:World):(Instr.field 42 (.agg #[a,b,c,d,e]) 2).run Tryz.prog w = .ok (.agg #[c,d]) w:=by kernel_rfl
theorem fld3 (a b c d e:Value) (w:World):(Instr.field 42 (.agg #[a,b,c,d,e]) 3).run Tryz.prog w = .ok e w:=by kernel_rfl
theorem box2 {w:World} {b:Nat} {x0 x1:Value} {t:TypeId} (h:w.heap[b]?=some (.cells #[x0,x1] t (0,0))) :
 w.cell? ⟨b,0,none⟩=some x0∧w.cell? ⟨b,1,none⟩=some x1∧w.frozen? ⟨b,0,none⟩=false∧w.frozen? ⟨b,1,none⟩=false :=
 ⟨cell_of_row _ _ 0 _ _ _ h,cell_of_row _ _ 1 _ _ _ h,frozen_row h 0,frozen_row h 1⟩
theorem box3 {w:World} {b:Nat} {x0 x1 x2:Value} {t:TypeId} (h:w.heap[b]?=some (.cells #[x0,x1,x2] t (0,0))) :
 w.cell? ⟨b,0,none⟩=some x0∧w.cell? ⟨b,1,none⟩=some x1∧w.cell? ⟨b,2,none⟩=some x2∧w.frozen? ⟨b,0,none⟩=false∧w.frozen? ⟨b,1,none⟩=false∧w.frozen? ⟨b,2,none⟩=false :=
 ⟨cell_of_row _ _ 0 _ _ _ h,cell_of_row _ _ 1 _ _ _ h,cell_of_row _ _ 2 _ _ _ h,frozen_row h 0,frozen_row h 1,frozen_row h 2⟩
theorem box5 {w:World} {b:Nat} {x0 x1 x2 x3 x4:Value} {t:TypeId} (h:w.heap[b]?=some (.cells #[x0,x1,x2,x3,x4] t (0,0))) :
 w.cell? ⟨b,0,none⟩=some x0∧w.cell? ⟨b,1,none⟩=some x1∧w.cell? ⟨b,2,none⟩=some x2∧w.cell? ⟨b,3,none⟩=some x3∧w.cell? ⟨b,4,none⟩=some x4 ∧
 w.frozen? ⟨b,0,none⟩=false∧w.frozen? ⟨b,1,none⟩=false∧w.frozen? ⟨b,2,none⟩=false∧w.frozen? ⟨b,3,none⟩=false∧w.frozen? ⟨b,4,none⟩=false :=
 ⟨cell_of_row _ _ 0 _ _ _ h,cell_of_row _ _ 1 _ _ _ h,cell_of_row _ _ 2 _ _ _ h,cell_of_row _ _ 3 _ _ _ h,cell_of_row _ _ 4 _ _ _ h,frozen_row h 0,frozen_row h 1,frozen_row h 2,frozen_row h 3,frozen_row h 4⟩
theorem box7 {w:World} {b:Nat} {x0 x1 x2 x3 x4 x5 x6:Value} {t:TypeId} (h:w.heap[b]?=some (.cells #[x0,x1,x2,x3,x4,x5,x6] t (0,0))) :
 w.cell? ⟨b,0,none⟩=some x0∧w.cell? ⟨b,1,none⟩=some x1∧w.cell? ⟨b,2,none⟩=some x2∧w.cell? ⟨b,3,none⟩=some x3∧w.cell? ⟨b,4,none⟩=some x4∧w.cell? ⟨b,5,none⟩=some x5∧w.cell? ⟨b,6,none⟩=some x6 ∧
 w.frozen? ⟨b,0,none⟩=false∧w.frozen? ⟨b,1,none⟩=false∧w.frozen? ⟨b,2,none⟩=false∧w.frozen? ⟨b,3,none⟩=false∧w.frozen? ⟨b,4,none⟩=false∧w.frozen? ⟨b,5,none⟩=false∧w.frozen? ⟨b,6,none⟩=false :=
 ⟨cell_of_row _ _ 0 _ _ _ h,cell_of_row _ _ 1 _ _ _ h,cell_of_row _ _ 2 _ _ _ h,cell_of_row _ _ 3 _ _ _ h,cell_of_row _ _ 4 _ _ _ h,cell_of_row _ _ 5 _ _ _ h,cell_of_row _ _ 6 _ _ _ h,frozen_row h 0,frozen_row h 1,frozen_row h 2,frozen_row h 3,frozen_row h 4,frozen_row h 5,frozen_row h 6⟩
theorem is_any (q:Nat) (s:Bs) (t:Tok) (r:List Tok) (d:Nat) (fl:Bool) (b:Bool) (hb:Hidden ((t.x == s)=b)) (w:World) (h:Ps w q (t::r) d fl) :
 Calls Tryz.prog 65 #[pp q,ct s] w fun e w'=>e = .returned (.bool b)∧Fr (fun _=>False) w w':=by
 have kn:=next_any q t r d fl w h
 have hf1:=fld1
 go_enter Tryz.func65,Tryz.ntmps65
 go_wp2_with (go_at_call 111;refine kn.mono ?_;rintro e W1 ⟨rfl,f1⟩)
 go_ret
 refine ⟨?_,f1⟩
 rw [←(show _=b from hb)]
 rfl
theorem fault_any (q:Nat) (c:Int) (t:Tok) (r:List Tok) (d:Nat) (fl:Bool) (w:World) (h:Ps w q (t::r) d fl) :
 Calls Tryz.prog 109 #[pp q,ci c] w fun e w'=>e = .returned (.agg #[ci (t.p:Int),ci c])∧Fr (fun _=>False) w w':=by
 have f0:=Fr.alloc (fun _=>False) w (.cells #[ci 0,ci 0] 110)
 have kn:=next_any q t r d fl _ (h.keepN f0)
 have hf3:=fld3
 have hn:Hidden ((w.alloc (.cells #[ci 0,ci 0] 110)).heap[w.heap.size]?=some (.cells #[ci 0,ci 0] 110 (0,0))):=alloc_new _ _
 go_enter Tryz.func109,Tryz.ntmps109
 go_wp2_with fail
 go_at_call 111
 refine kn.mono ?_
 rintro e W1 ⟨rfl,f1⟩
 have hb:=f1.heap hn (fun f=>f)
 have c0:W1.cell? ⟨w.heap.size,0,none⟩=some (ci 0):=cell_of_row _ _ 0 _ _ _ hb
 have c1:W1.cell? ⟨w.heap.size,1,none⟩=some (ci 0):=cell_of_row _ _ 1 _ _ _ hb
 have z0:=frozen_row hb 0
 have z1:=frozen_row hb 1
 go_wp2_with fail
 refine post_one (results_cell_row rfl _ _ _ _ _ _ _ rfl (set_two hb _ _) Tryz.underlying110 rfl info_fault) rfl ⟨rfl,?_⟩
 exact fr_set1 (fr_set1 (f0.same f1) (Nat.le_refl _) _ _) (Nat.le_refl _) _ _
def gP (p:Nat) (c:Int):Ending:=.panicked [{ v:=.iface 110 (.agg #[.int .i64 (p:Int),.int .i64 c]),recovered:=false }]
theorem slice_tail (g off n cap:Nat) (h:n+1≤cap) (hc:cap≤9223372036854775807):∃off',(n=0∨off'=off+5)∧∀w,(Instr.slice 35 (.slice (some ⟨g,off,none⟩) (n+1) cap) (some (.int .i64 1)) none none).run Tryz.prog w = .ok (.slice (some ⟨g,off',none⟩) n (cap - 1)) w:=by
 have hi:Tryz.prog.info? 42=none∨∃i,Tryz.prog.info? 42=some i∧i.size=5:=by
  have:=info_tok
  cases hx:Tryz.prog.info? 42 with
  | none=>exact Or.inl rfl
  | some i=>rw [hx] at this;exact Or.inr ⟨i,rfl,by simpa using this⟩
 rcases hi with hi | ⟨i,hi,h5⟩
 ·have:=info_tok
  rw [hi] at this
  cases this
 ·by_cases h1:cap=1
  ·refine ⟨off,Or.inl (by omega),fun w=>?_⟩
   subst h1
   obtain rfl:n=0:=by omega
   simp [Instr.slice,Instr.sliceBounds,Instr.sliceBound,go_sem,Tryz.underlying35,sizeOf,typeInfo,hi,h5,Sem.run_bind]
  ·refine ⟨off+5,Or.inr rfl,fun w=>?_⟩
   simp [Instr.slice,Instr.sliceBounds,Instr.sliceBound,go_sem,Tryz.underlying35,sizeOf,typeInfo,hi,h5,Sem.run_bind,Addr.add,h1]
   intro h9
   omega
theorem frozen_ps {w:World} {q:Nat} {v:Value} {d:Nat} {fl:Bool} (h:w.heap[q]?=some (psO v d fl)) (j:Nat):w.frozen? ⟨q,j,none⟩=false:=frozen_row h j
theorem take_no (q:Nat) (t:Tok) (r:List Tok) (d:Nat) (w:World) (h:Ps w q (t::r) d true) :
 Calls Tryz.prog 112 #[pp q] w fun e w'=>e=gP t.p 3∧Fr (fun _=>False) w w':=by
 have f0:=Fr.alloc (fun _=>False) w tok0
 have kf:=fault_any q 3 t r d true _ (h.keepN f0)
 obtain ⟨hTq,g,off,cap,h1,_⟩:=h
 have z2:(w.alloc tok0).cell? ⟨q,2,none⟩=some (.bool true):=cell_of_row _ _ 2 _ _ _ (f0.heap h1 (fun f=>f))
 clear h1
 go_enter Tryz.func112,Tryz.ntmps112
 go_wp2_with (go_at_call 109;refine kf.mono ?_;rintro e W1 ⟨rfl,f1⟩)
 exact ⟨rfl,rfl,f0.same f1⟩
theorem take_ok (q:Nat) (t:Tok) (r:List Tok) (d:Nat) (w:World) (h:Ps w q (t::r) d false) :
 Calls Tryz.prog 112 #[pp q] w fun e w'=>e = .returned (.agg #[.int .i64 (t.k:Int),.string ⟨t.x.toArray⟩,.int .i64 t.ty,.int .u64 t.b,.int .i64 (t.p:Int)])∧Ps w' q r d false∧Fr (fun k=>k=q) w w':=by
 have f0:=Fr.alloc (fun _=>False) w tok0
 have kn:=next_any q t r d false _ (h.keepN f0)
 have hn:Hidden ((w.alloc tok0).heap[w.heap.size]?=some tok0):=alloc_new _ _
 have hlt:=h.lt
 obtain ⟨g,off,cap,h1,h2,h3,h4,c0,c1,c2,c3,c4,hrest⟩:=h.head
 have z2:(w.alloc tok0).cell? ⟨q,2,none⟩=some (.bool false):=cell_of_row _ _ 2 _ _ _ (f0.heap h1 (fun f=>f))
 have hTq:=h.1
 obtain ⟨off',hoff,hsl⟩:=slice_tail g off r.length cap h3 h4
 have h1H:Hidden (w.heap[q]?=some (psO (.slice (some ⟨g,off,none⟩) (r.length+1) cap) d false)):=h1
 have hoffH:Hidden (r.length=0∨off'=off+5):=hoff
 clear c0 c1 c2 c3 c4 h1 hoff h
 go_enter Tryz.func112,Tryz.ntmps112
 go_wp2_with fail
 go_at_call 111
 refine kn.mono ?_
 rintro e W1 ⟨rfl,f1⟩
 have hq1:=(f0.same f1).heap h1H (fun f=>f)
 have hn1:=f1.heap hn (fun f=>f)
 have hs1:=f1.size
 have fa:=Fr.alloc (fun _=>False) W1 (.cells #[.int .i64 (t.k:Int),.string ⟨t.x.toArray⟩,.int .i64 t.ty,.int .u64 t.b,.int .i64 (t.p:Int)] 42)
 have y0:(W1.alloc (.cells #[.int .i64 (t.k:Int),.string ⟨t.x.toArray⟩,.int .i64 t.ty,.int .u64 t.b,.int .i64 (t.p:Int)] 42)).cell? ⟨q,0,none⟩=some (.slice (some ⟨g,off,none⟩) (r.length+1) cap):=cell_of_row _ _ 0 _ _ _ (fa.heap hq1 (fun f=>f))
 have z0:=frozen_ps (fa.heap hq1 (fun f=>f)) 0
 go_upto_region 5 with fail
 have g1:Fr (fun k=>k=q) W1 ((W1.alloc (.cells #[.int .i64 (t.k:Int),.string ⟨t.x.toArray⟩,.int .i64 t.ty,.int .u64 t.b,.int .i64 (t.p:Int)] 42)).setCell ⟨q,0,none⟩ (.slice (some ⟨g,off',none⟩) r.length (cap - 1))):=(fa.mono (fun _ _ f=>f.elim)).same (Fr.setCell _ ⟨q,0,none⟩ _)
 have g2:((W1.alloc (.cells #[.int .i64 (t.k:Int),.string ⟨t.x.toArray⟩,.int .i64 t.ty,.int .u64 t.b,.int .i64 (t.p:Int)] 42)).setCell ⟨q,0,none⟩ (.slice (some ⟨g,off',none⟩) r.length (cap - 1))).heap[q]?=some (psO (.slice (some ⟨g,off',none⟩) r.length (cap - 1)) d false):=heap_setCell_same _ q 0 _ 146 _ (fa.heap hq1 (fun f=>f))
 have g3:((W1.alloc (.cells #[.int .i64 (t.k:Int),.string ⟨t.x.toArray⟩,.int .i64 t.ty,.int .u64 t.b,.int .i64 (t.p:Int)] 42)).setCell ⟨q,0,none⟩ (.slice (some ⟨g,off',none⟩) r.length (cap - 1))).heap[W1.heap.size]?=some (.cells #[.int .i64 (t.k:Int),.string ⟨t.x.toArray⟩,.int .i64 t.ty,.int .u64 t.b,.int .i64 (t.p:Int)] 42 (0,0)):=by
  rw [heap_setCell_other _ _ _ _ (by show W1.heap.size≠q;simp at hs1;omega)]
  exact alloc_new _ _
 have hn2:=g1.heap hn1 (by omega)
 generalize (W1.alloc (.cells #[.int .i64 (t.k:Int),.string ⟨t.x.toArray⟩,.int .i64 t.ty,.int .u64 t.b,.int .i64 (t.p:Int)] 42)).setCell ⟨q,0,none⟩ (.slice (some ⟨g,off',none⟩) r.length (cap - 1))=W2 at g1 g2 g3 hn2 ⊢
 obtain ⟨b0,b1,b2,b3,b4,y0,y1,y2,y3,y4⟩:=box5 g3
 obtain ⟨a0,a1,a2,a3,a4,x0,x1,x2,x3,x4⟩:=box5 hn2
 have g2H:Hidden (W2.heap[q]?=some (psO (.slice (some ⟨g,off',none⟩) r.length (cap - 1)) d false)):=g2
 have hn2H:Hidden (W2.heap[w.heap.size]?=some tok0):=hn2
 clear g2 g3 hn2 hn1 hq1 y0 y1 y2 y3 y4
 go_wp2_with fail
 have fr5:=fr_five (((f0.same f1).mono (fun _ _ f=>f.elim)).same g1) (Nat.le_refl _) (.int .i64 (t.k:Int)) (.string ⟨t.x.toArray⟩) (.int .i64 t.ty) (.int .u64 t.b) (.int .i64 (t.p:Int))
 refine post_one (results_cell_row rfl _ _ _ _ _ _ _ rfl (set_five hn2H _ _ _ _ _) Tryz.underlying42 rfl info_tok) rfl ⟨rfl,?_,fr5⟩
 have hW2:Ps W2 q r d false:=by
  refine ⟨(hTq.step (f0.same f1) (fun _ f=>f.elim)).step g1 (fun k hk=>by subst hk;exact Nat.le_refl _),g,off',cap - 1,g2H,h2,by omega,by unfold maxLen;omega,fun i u hu j x hx=>?_⟩
  have ho:r.length=0∨off'=off+5:=hoffH
  rcases ho with h0 | rfl
  ·rw [List.eq_nil_of_length_eq_zero h0] at hu
   simp at hu
  ·exact g1.cell ((f0.same f1).cellN (hrest i u hu j x hx)) (by show g≠q;omega)
 exact hW2.high (set5_fr W2 w.heap.size _ _ _ _ _) (fun k hk=>by subst hk;exact hlt)
def Out {α:Type} (T:α→Value→World→World→Prop) (q d:Nat) (w:World) (r:Pz.Rs α) (e:Ending) (w':World):Prop :=
 match r with
 | .ok a ts=>∃v,e = .returned v∧T a v w w'∧Ps w' q ts d false∧Fr (fun k=>k=q) w w'
 | .er p c=>e=gP p c∧Fr (fun k=>k=q) w w'
theorem frq {q:Nat} {w w':World} (h:Fr (fun _=>False) w w'):Fr (fun k=>k=q) w w':=h.mono (fun _ _ f=>f.elim)
theorem has_no (q:Nat) (s:Bs) (t:Tok) (r:List Tok) (d:Nat) (fl:Bool) (hx:t.x≠s) (w:World) (h:Ps w q (t::r) d fl) :
 Calls Tryz.prog 110 #[pp q,ct s] w fun e w'=>e = .returned (.bool false)∧Fr (fun _=>False) w w':=by
 have ki:=is_any q s t r d fl false (by simpa [Hidden] using hx) w h
 go_enter Tryz.func110,Tryz.ntmps110
 go_wp2_with (go_at_call 65;refine ki.mono ?_;rintro e W1 ⟨rfl,f1⟩)
 go_ret
 exact ⟨rfl,f1⟩
theorem has_yes (q:Nat) (s:Bs) (t:Tok) (r:List Tok) (d:Nat) (hx:t.x=s) (w:World) (h:Ps w q (t::r) d false) :
 Calls Tryz.prog 110 #[pp q,ct s] w fun e w'=>e = .returned (.bool true)∧Ps w' q r d false∧Fr (fun k=>k=q) w w':=by
 have ki:=is_any q s t r d false true (by simpa [Hidden] using hx) w h
 have kt:=fun w=>take_ok q t r d w
 have hH:Hidden (Ps w q (t::r) d false):=h
 clear hx h
 go_enter Tryz.func110,Tryz.ntmps110
 go_wp2_with fail
 go_at_call 65
 refine ki.mono ?_
 rintro e W1 ⟨rfl,f1⟩
 go_wp2_with fail
 go_at_call 112
 refine (kt _ (Ps.keepN hH f1)).mono ?_
 rintro e W2 ⟨rfl,h2,f2⟩
 go_wp2_with fail
 go_ret
 exact ⟨rfl,h2,(frq f1).same f2⟩
theorem has_full (q:Nat) (s:Bs) (t:Tok) (r:List Tok) (d:Nat) (hx:t.x=s) (w:World) (h:Ps w q (t::r) d true) :
 Calls Tryz.prog 110 #[pp q,ct s] w fun e w'=>e=gP t.p 3∧Fr (fun k=>k=q) w w':=by
 have ki:=is_any q s t r d true true (by simpa [Hidden] using hx) w h
 have kt:=fun w=>take_no q t r d w
 have hH:Hidden (Ps w q (t::r) d true):=h
 unfold gP at *
 clear hx h
 go_enter Tryz.func110,Tryz.ntmps110
 go_wp2_with fail
 go_at_call 65
 refine ki.mono ?_
 rintro e W1 ⟨rfl,f1⟩
 go_wp2_with fail
 go_at_call 112
 refine (kt _ (Ps.keepN hH f1)).mono ?_
 rintro e W2 ⟨rfl,f2⟩
 go_wp2_with fail
 exact ⟨rfl,rfl,frq (f1.same f2)⟩
theorem must_c (q:Nat) (s:Bs) (ts:List Tok) (d:Nat) (fl:Bool) (rs:Pz.Rs Unit) (hs:Pz.must s fl ts=some rs) (w:World) (h:Ps w q ts d fl) :
 Calls Tryz.prog 63 #[pp q,ct s] w (Out (fun _ v _ _=>v = .tuple #[]) q d w rs):=by
 cases ts with
 | nil=>simp [Pz.must] at hs
 | cons t r =>
   simp only [Pz.must] at hs
   by_cases hx:t.x=s
   ·rw [if_pos hx] at hs
    cases fl
    ·have e:Pz.Rs.ok () r=rs:=by simpa using hs
     subst e
     have k:=has_yes q s t r d hx w h
     clear hs hx
     unfold Out
     go_enter Tryz.func63,Tryz.ntmps63
     go_wp2_with (go_at_call 110;refine k.mono ?_;rintro e W1 ⟨rfl,h1,f1⟩)
     go_end0
     exact ⟨_,rfl,rfl,h1,f1⟩
    ·have e:Pz.Rs.er t.p 3=rs:=by simpa using hs
     subst e
     have k:=has_full q s t r d hx w h
     clear hs hx
     unfold Out gP at *
     go_enter Tryz.func63,Tryz.ntmps63
     go_wp2_with (go_at_call 110;refine k.mono ?_;rintro e W1 ⟨rfl,f1⟩)
     exact ⟨rfl,rfl,f1⟩
   ·rw [if_neg hx] at hs
    have e:Pz.Rs.er t.p 11=rs:=by simpa using hs
    subst e
    have k:=has_no q s t r d fl hx w h
    have kf:=fun w=>fault_any q 11 t r d fl w
    have hH:Hidden (Ps w q (t::r) d fl):=h
    clear hs hx h
    unfold Out gP at *
    go_enter Tryz.func63,Tryz.ntmps63
    go_wp2_with fail
    go_at_call 110
    refine k.mono ?_
    rintro e W1 ⟨rfl,f1⟩
    go_wp2_with fail
    go_at_call 109
    refine (kf _ (Ps.keepN hH f1)).mono ?_
    rintro e W2 ⟨rfl,f2⟩
    go_wp2_with fail
    exact ⟨rfl,rfl,frq (f1.same f2)⟩
theorem has_c (q:Nat) (s:Bs) (ts:List Tok) (d:Nat) (rs:Pz.Rs Bool) (hs:Pz.has s false ts=some rs) (w:World) (h:Ps w q ts d false) :
 Calls Tryz.prog 110 #[pp q,ct s] w (Out (fun b v _ _=>v = .bool b) q d w rs):=by
 cases ts with
 | nil=>simp [Pz.has] at hs
 | cons t r =>
   simp only [Pz.has] at hs
   by_cases hx:t.x=s
   ·rw [if_pos hx] at hs
    have e:Pz.Rs.ok true r=rs:=by simpa using hs
    subst e
    exact (has_yes q s t r d hx w h).mono fun e w' ⟨h1,h2,h3⟩=>⟨_,h1,rfl,h2,h3⟩
   ·rw [if_neg hx] at hs
    have e:Pz.Rs.ok false (t::r)=rs:=by simpa using hs
    subst e
    exact (has_no q s t r d false hx w h).mono fun e w' ⟨h1,h2⟩=>⟨_,h1,rfl,h.keepN h2,frq h2⟩
theorem name_c (q:Nat) (ts:List Tok) (d:Nat) (fl:Bool) (rs:Pz.Rs Bs) (hs:Pz.name fl ts=some rs) (w:World) (h:Ps w q ts d fl) :
 Calls Tryz.prog 64 #[pp q] w (Out (fun n v _ _=>v=ct n) q d w rs):=by
 have hf0:=fld0
 have hf1:=fld1
 cases ts with
 | nil=>simp [Pz.name] at hs
 | cons t r =>
   simp only [Pz.name] at hs
   have kn:=next_any q t r d fl w h
   have hH:Hidden (Ps w q (t::r) d fl):=h
   by_cases hx:t.k=1
   ·rw [if_pos hx] at hs
    have hk:((t.k:Int) == 1)=true:=by simp [hx]
    have hk2:((t.k:Int) != 1)=false:=by simp [hx]
    cases fl
    ·have e:Pz.Rs.ok t.x r=rs:=by simpa using hs
     subst e
     have kt:=fun w=>take_ok q t r d w
     clear hs hx h
     unfold Out
     go_enter Tryz.func64,Tryz.ntmps64
     go_wp2_with fail
     go_at_call 111
     refine kn.mono ?_
     rintro e W1 ⟨rfl,f1⟩
     go_wp2_with fail
     go_at_call 112
     refine (kt _ (Ps.keepN hH f1)).mono ?_
     rintro e W2 ⟨rfl,h2,f2⟩
     go_wp2_with fail
     go_ret
     exact ⟨_,rfl,rfl,h2,(frq f1).same f2⟩
    ·have e:Pz.Rs.er t.p 3=rs:=by simpa using hs
     subst e
     have kt:=fun w=>take_no q t r d w
     clear hs hx h
     unfold Out gP at *
     go_enter Tryz.func64,Tryz.ntmps64
     go_wp2_with fail
     go_at_call 111
     refine kn.mono ?_
     rintro e W1 ⟨rfl,f1⟩
     go_wp2_with fail
     go_at_call 112
     refine (kt _ (Ps.keepN hH f1)).mono ?_
     rintro e W2 ⟨rfl,f2⟩
     go_wp2_with fail
     exact ⟨rfl,rfl,frq (f1.same f2)⟩
   ·rw [if_neg hx] at hs
    have hk:((t.k:Int) == 1)=false:=by rw [beq_eq_false_iff_ne];omega
    have hk2:((t.k:Int) != 1)=true:=by rw [bne_iff_ne];omega
    have e:Pz.Rs.er t.p 11=rs:=by simpa using hs
    subst e
    have kf:=fun w=>fault_any q 11 t r d fl w
    clear hs hx h
    unfold Out gP at *
    go_enter Tryz.func64,Tryz.ntmps64
    go_wp2_with fail
    go_at_call 111
    refine kn.mono ?_
    rintro e W1 ⟨rfl,f1⟩
    go_wp2_with fail
    go_at_call 109
    refine (kf _ (Ps.keepN hH f1)).mono ?_
    rintro e W2 ⟨rfl,f2⟩
    go_wp2_with fail
    exact ⟨rfl,rfl,frq (f1.same f2)⟩
end Go.Proofs.YteijjaabngkbjaaGreatDoor
namespace Go.Proofs.YteijjaabngkbjaaGreatDoor
open Go.RowKit Lx Te
theorem Pz.bd_some {α β:Type} {m:Pz.Ou α} {k:α→List Tok→Pz.Ou β} {r:Pz.Rs β} (h:Hidden (Pz.bd m k=some r)) :
 ∃r1,m=some r1∧Hidden (match r1 with | .ok a ts=>k a ts=some r | .er p c=>r = .er p c):=by
 match m,h with
 | none,h=>exact absurd h (by simp [Hidden])
 | some (.er p c),h=>exact ⟨_,rfl,by have:some (Pz.Rs.er p c)=some r:=h;exact (Option.some.inj this).symm⟩
 | some (.ok a ts),h=>exact ⟨_,rfl,h⟩
def Nw (B:Nat) (w:World) (P:World→Prop):Prop:=∀w',Fr (fun k=>k<B) w w'→P w'
theorem Nw.now {B:Nat} {w:World} {P:World→Prop} (h:Nw B w P):P w:=h w (Fr.refl _ _)
theorem Nw.step {B:Nat} {S:Nat→Prop} {w w':World} {P:World→Prop} (h:Nw B w P) (hf:Fr S w w') (hS:∀k,S k→k<B):Nw B w' P :=
 fun w'' hf'=>h w'' ((hf.mono (fun k _ hk=>hS k hk)).same hf')
theorem Nw.weak {B B':Nat} {w:World} {P:World→Prop} (h:Nw B w P) (hB:B'≤B):Nw B' w P :=
 fun w' hf=>h w' (hf.mono (fun k _ hk=>by omega))
def TE (x:Pz.Ex) (v:Value) (w w':World):Prop :=
 ∃ao cap,v = .agg #[ci x.1.kind,ci x.1.op,ct x.1.mod,ct x.1.name,ci x.1.vt,.int .u64 x.1.vb,.slice ao x.2.len cap]∧Nw w.heap.size w' (fun w=>ExL w ao cap x.2)
theorem info_ex:(Tryz.prog.info? 59).map (·.size)=some 7:=by kernel_rfl
theorem post_ex {fn:Func} {R:Ending→World→Prop} {a:Act} {w:World} {p:Tmp} {g:Nat} {x0 x1 x2 x3 x4 x5 x6 v0 v1 v2 v3 v4 v5 v6:Value} (hg:w.heap[g]?=some (.cells #[x0,x1,x2,x3,x4,x5,x6] 59 (0,0))) (h:fn.results=#[.cell p 59]) (hd:a.defers=[])
 (hp:a.tmps.getD p undef = .pointer (some ⟨g,0,none⟩)) (hR:R (.returned (.agg #[v0,v1,v2,v3,v4,v5,v6])) (((((((w.setCell ⟨g,0,none⟩ v0).setCell ⟨g,1,none⟩ v1).setCell ⟨g,2,none⟩ v2).setCell ⟨g,3,none⟩ v3).setCell ⟨g,4,none⟩ v4).setCell ⟨g,5,none⟩ v5).setCell ⟨g,6,none⟩ v6)) :
 bodyPost Tryz.prog fn R .ret a (((((((w.setCell ⟨g,0,none⟩ v0).setCell ⟨g,1,none⟩ v1).setCell ⟨g,2,none⟩ v2).setCell ⟨g,3,none⟩ v3).setCell ⟨g,4,none⟩ v4).setCell ⟨g,5,none⟩ v5).setCell ⟨g,6,none⟩ v6) :=
 post_one (results_cell_row h _ _ _ _ _ _ _ hp (set_seven hg _ _ _ _ _ _ _) Tryz.underlying59 rfl info_ex) hd hR
abbrev ex0:Obj:=.cells #[ci 0,ci 0,.string ⟨#[]⟩,.string ⟨#[]⟩,ci 0,.int .u64 0,.slice none 0 0] 59 (0,0)
theorem atEnd_any (q:Nat) (ts:List Tok) (d:Nat) (fl:Bool) (b:Bool) (hb:Hidden (((ts.length:Int) == 1)=b)) (w:World) (h:Ps w q ts d fl) :
 Calls Tryz.prog 68 #[pp q] w fun e w'=>e = .returned (.bool b)∧w'=w:=by
 obtain ⟨hTq,g,off,cap,h1,_⟩:=h
 have c0:w.cell? ⟨q,0,none⟩=some (.slice (some ⟨g,off,none⟩) ts.length cap):=cell_of_row _ _ 0 _ _ _ h1
 clear h1
 go_enter Tryz.func68,Tryz.ntmps68
 go_wp2_with fail
 go_ret
 refine ⟨?_,rfl⟩
 rw [←(show _=b from hb)]
 rfl
theorem mustEnd_ok (q:Nat) (t:Tok) (d:Nat) (fl:Bool) (w:World) (h:Ps w q [t] d fl) :
 Calls Tryz.prog 62 #[pp q] w fun e w'=>e = .returned (.tuple #[])∧w'=w:=by
 have k:=atEnd_any q [t] d fl true rfl w h
 go_enter Tryz.func62,Tryz.ntmps62
 go_wp2_with (go_at_call 68;refine k.mono ?_;rintro e W1 ⟨rfl,rfl⟩)
 go_end0
 exact ⟨rfl,rfl⟩
theorem mustEnd_no (q:Nat) (t u:Tok) (r:List Tok) (d:Nat) (fl:Bool) (w:World) (h:Ps w q (t::u::r) d fl) :
 Calls Tryz.prog 62 #[pp q] w fun e w'=>e=gP t.p 11∧Fr (fun _=>False) w w':=by
 have k:=atEnd_any q (t::u::r) d fl false (by simp only [Hidden,beq_eq_false_iff_ne,List.length_cons];omega) w h
 have kf:=fault_any q 11 t (u::r) d fl w h
 unfold gP
 go_enter Tryz.func62,Tryz.ntmps62
 go_wp2_with fail
 go_at_call 68
 refine k.mono ?_
 rintro e W1 ⟨rfl,rfl⟩
 go_wp2_with fail
 go_at_call 109
 refine kf.mono ?_
 rintro e W2 ⟨rfl,f2⟩
 go_wp2_with fail
 exact ⟨rfl,rfl,f2⟩
theorem Ps.deep {w:World} {q:Nat} {ts:List Tok} {d:Nat} {fl:Bool} (h:Ps w q ts d fl):w.cell? ⟨q,1,none⟩=some (ci (d:Int))∧w.frozen? ⟨q,1,none⟩=false:=by
 obtain ⟨hTq,g,off,cap,h1,_⟩:=h
 exact ⟨cell_of_row _ _ 1 _ _ _ h1,frozen_row h1 1⟩
theorem Ps.setDeep {w:World} {q:Nat} {ts:List Tok} {d:Nat} {fl:Bool} (h:Ps w q ts d fl) (d':Nat):Ps (w.setCell ⟨q,1,none⟩ (ci (d':Int))) q ts d' fl :=
 h.set (Fr.put w q 1 _) (fun v hv=>heap_setCell_same _ q 1 _ 146 _ hv)
theorem Ps.setFull {w:World} {q:Nat} {ts:List Tok} {d:Nat} {fl:Bool} (h:Ps w q ts d fl) (fl':Bool):Ps (w.setCell ⟨q,2,none⟩ (.bool fl')) q ts d fl' :=
 h.set (Fr.put w q 2 _) (fun v hv=>heap_setCell_same _ q 2 _ 146 _ hv)
theorem Ps.fullC {w:World} {q:Nat} {ts:List Tok} {d:Nat} {fl:Bool} (h:Ps w q ts d fl):w.cell? ⟨q,2,none⟩=some (.bool fl)∧w.frozen? ⟨q,2,none⟩=false:=by
 obtain ⟨hTq,g,off,cap,h1,_⟩:=h
 exact ⟨cell_of_row _ _ 2 _ _ _ h1,frozen_row h1 2⟩
theorem opn_c (q:Nat) (s:Bs) (ts:List Tok) (d:Nat) (hd:d≤32) (fl:Bool) (rs:Pz.Rs Unit) (hs:Pz.opn s fl d ts=some rs) (w:World) (h:Ps w q ts d fl) :
 Calls Tryz.prog 196 #[pp q,ct s] w (Out (fun _ v _ _=>v = .tuple #[]) q (d+1) w rs):=by
 cases ts with
 | nil=>simp [Pz.opn] at hs
 | cons t r =>
   have hH:Hidden (Ps w q (t::r) d fl):=h
   simp only [Pz.opn] at hs
   by_cases hx:t.x=s
   ·rw [if_pos hx] at hs
    have ki:=is_any q s t r d fl true (by simpa [Hidden] using hx) w h
    by_cases h32:d=32
    ·rw [if_pos h32] at hs
     have e:Pz.Rs.er t.p 13=rs:=by simpa using hs
     subst e
     have kf:=fun w=>fault_any q 13 t r d fl w
     have hb:((d:Int) == 32)=true:=by simp [h32]
     clear hs hx h h32
     unfold Out gP at *
     go_enter Tryz.func196,Tryz.ntmps196
     go_wp2_with fail
     go_at_call 65
     refine ki.mono ?_
     rintro e W1 ⟨rfl,f1⟩
     obtain ⟨c1,z1⟩:=(Ps.keepN hH f1).deep
     go_wp2_with fail
     go_at_call 109
     refine (kf _ (Ps.keepN hH f1)).mono ?_
     rintro e W2 ⟨rfl,f2⟩
     go_wp2_with fail
     exact ⟨rfl,rfl,frq (f1.same f2)⟩
    ·rw [if_neg h32] at hs
     have hm:Pz.must s fl (t::r)=some rs:=by simp only [Pz.must,if_pos hx];exact hs
     have km:=fun w=>must_c q s (t::r) d fl rs hm w
     have hb:((d:Int) == 32)=false:=by rw [beq_eq_false_iff_ne];omega
     clear hs hx h h32 hm
     go_enter Tryz.func196,Tryz.ntmps196
     go_wp2_with fail
     go_at_call 65
     refine ki.mono ?_
     rintro e W1 ⟨rfl,f1⟩
     obtain ⟨c1,z1⟩:=(Ps.keepN hH f1).deep
     go_wp2_with fail
     go_at_call 63
     refine (km _ (Ps.keepN hH f1)).mono ?_
     rcases rs with ⟨u,ts1⟩ | ⟨p,c⟩
     ·rintro e W2 ⟨v,rfl,rfl,h2,f2⟩
      obtain ⟨c2,z2⟩:=h2.deep
      have h2H:Hidden (Ps W2 q ts1 d false):=h2
      clear h2
      go_wp2_with fail
      go_end0
      exact ⟨_,rfl,rfl,Ps.setDeep h2H (d+1),((frq f1).same f2).same (Fr.put _ q 1 _)⟩
     ·rintro e W2 ⟨rfl,f2⟩
      unfold gP
      go_wp2_with fail
      exact ⟨rfl,rfl,(frq f1).same f2⟩
   ·rw [if_neg hx] at hs
    have ki:=is_any q s t r d fl false (by simpa [Hidden] using hx) w h
    have hm:Pz.must s fl (t::r)=some rs:=by simp only [Pz.must,if_neg hx];exact hs
    have km:=fun w=>must_c q s (t::r) d fl rs hm w
    have e:Pz.Rs.er t.p 11=rs:=by simpa using hs
    subst e
    clear hs hx h hm
    go_enter Tryz.func196,Tryz.ntmps196
    go_wp2_with fail
    go_at_call 65
    refine ki.mono ?_
    rintro e W1 ⟨rfl,f1⟩
    go_wp2_with fail
    go_at_call 63
    refine (km _ (Ps.keepN hH f1)).mono ?_
    rintro e W2 ⟨rfl,f2⟩
    unfold gP
    go_wp2_with fail
    exact ⟨rfl,rfl,(frq f1).same f2⟩
theorem shut_c (q:Nat) (s:Bs) (ts:List Tok) (d:Nat) (hd:d≤32) (rs:Pz.Rs Unit) (hs:Pz.must s false ts=some rs) (w:World) (h:Ps w q ts (d+1) false) :
 Calls Tryz.prog 198 #[pp q,ct s] w (Out (fun _ v _ _=>v = .tuple #[]) q d w rs):=by
 have km:=must_c q s ts (d+1) false rs hs w h
 clear hs h
 go_enter Tryz.func198,Tryz.ntmps198
 go_wp2_with fail
 go_at_call 63
 refine km.mono ?_
 rcases rs with ⟨u,ts1⟩ | ⟨p,c⟩
 ·rintro e W2 ⟨v,rfl,rfl,h2,f2⟩
  obtain ⟨c2,z2⟩:=h2.deep
  have c3:W2.cell? ⟨q,1,none⟩=some (ci ((d:Int)+1)):=c2
  have h2H:Hidden (Ps W2 q ts1 (d+1) false):=h2
  clear h2 c2
  go_wp2_with fail
  go_end0
  exact ⟨_,rfl,rfl,Ps.setDeep h2H d,f2.same (Fr.put _ q 1 _)⟩
 ·rintro e W2 ⟨rfl,f2⟩
  unfold gP
  go_wp2_with fail
  exact ⟨rfl,rfl,f2⟩
theorem Nw.nil (B:Nat) (w:World):Nw B w (fun w=>ExL w none 0 .nil):=fun _ _=>⟨Nat.le_refl _,by decide,Or.inl rfl⟩
theorem lit_c (ty b:Int) (w:World):Calls Tryz.prog 222 #[.agg #[ci ty,.int .u64 b]] w fun e w'=>∃v,e = .returned v∧TE (Pz.lit ty b) v w w'∧Fr (fun _=>False) w w':=by
 go_enter Tryz.func222,Tryz.ntmps222
 go_wp2_with fail
 exact post_one (results_cell_row rfl _ _ _ _ _ _ _ rfl (heap_alloc2_new _ _ _) Tryz.underlying59 rfl info_ex) rfl ⟨_,rfl,⟨none,0,rfl,Nw.nil _ _⟩,(Fr.alloc _ _ _).same (Fr.alloc _ _ _)⟩
theorem Nw.one {B:Nat} {w:World} {h:EH} {k:Exs} {ao:Option Addr} {cap b:Nat} {t:TypeId} (hk:Nw B w (fun w=>ExL w ao cap k)) (hb:w.heap[b]?=some (.cells #[ci h.kind,ci h.op,ct h.mod,ct h.name,ci h.vt,.int .u64 h.vb,.slice ao k.len cap] t (0,0))) (hB:B≤b) :
 Nw B w (fun w=>ExL w (some ⟨b,0,none⟩) 1 (.cons h k .nil)):=by
 intro w' hf
 have hk':=hk w' hf
 have hb':=hf.heap hb (by omega)
 refine ⟨Nat.le_refl _,by decide,Or.inr ⟨b,0,rfl,⟨⟨ao,cap,fun j x hx=>?_,hk'.1,hk'.2.1,hk'.2.2⟩,trivial⟩⟩⟩
 rw [Nat.zero_add,cell_of_row _ _ j _ _ _ hb']
 simpa [exC] using hx
theorem one_c (op:Int) (B:Nat) (x:Pz.Ex) (ao:Option Addr) (cap:Nat) (w:World) (hB:B≤w.heap.size) (hx:Nw B w (fun w=>ExL w ao cap x.2)) :
 Calls Tryz.prog 221 #[ci op,.agg #[ci x.1.kind,ci x.1.op,ct x.1.mod,ct x.1.name,ci x.1.vt,.int .u64 x.1.vb,.slice ao x.2.len cap]] w fun e w' =>
  ∃b cap',e = .returned (.agg #[ci 6,ci op,.string ⟨#[]⟩,.string ⟨#[]⟩,ci 0,.int .u64 0,.slice (some ⟨b,0,none⟩) 1 cap'])∧Nw B w' (fun w=>ExL w (some ⟨b,0,none⟩) cap' (.cons x.1 x.2 .nil))∧Fr (fun _=>False) w w':=by
 go_enter Tryz.func221,Tryz.ntmps221
 go_wp2_with fail
 have hf:=((Fr.alloc (fun _=>False) w (.cells #[ci x.1.kind,ci x.1.op,ct x.1.mod,ct x.1.name,ci x.1.vt,.int .u64 x.1.vb,.slice ao x.2.len cap] 59)).same (Fr.alloc _ _ (.cells #[ci 6,ci op,.string ⟨#[]⟩,.string ⟨#[]⟩,ci 0,.int .u64 0,.slice (some ⟨w.heap.size+1+1,0,none⟩) 1 1] 59))).same (Fr.alloc _ _ (.cells #[ci x.1.kind,ci x.1.op,ct x.1.mod,ct x.1.name,ci x.1.vt,.int .u64 x.1.vb,.slice ao x.2.len cap] 59))
 refine post_one (results_cell_row rfl _ _ _ _ _ _ _ rfl ((alloc_old _ _ _ (by simp)).trans (heap_alloc2_new _ _ _)) Tryz.underlying59 rfl info_ex) rfl ⟨w.heap.size+1+1,1,rfl,?_,hf⟩
 exact (hx.step hf (fun _ f=>f.elim)).one (by have:=alloc_new ((w.alloc (.cells #[ci x.1.kind,ci x.1.op,ct x.1.mod,ct x.1.name,ci x.1.vt,.int .u64 x.1.vb,.slice ao x.2.len cap] 59)).alloc (.cells #[ci 6,ci op,.string ⟨#[]⟩,.string ⟨#[]⟩,ci 0,.int .u64 0,.slice (some ⟨w.heap.size+1+1,0,none⟩) 1 1] 59)) (.cells #[ci x.1.kind,ci x.1.op,ct x.1.mod,ct x.1.name,ci x.1.vt,.int .u64 x.1.vb,.slice ao x.2.len cap] 59);simpa using this) (by omega)
theorem refr_c (q:Nat) (ts:List Tok) (d:Nat) (fl:Bool) (rs:Pz.Rs Pz.Ex) (hs:Hidden (Pz.refr fl ts=some rs)) (w:World) (h:Ps w q ts d fl) :
 Calls Tryz.prog 223 #[pp q] w (Out TE q d w rs):=by
 have hq:=h.lt
 have f0:=Fr.alloc (fun _=>False) w ex0
 have hP0:Hidden (Ps (w.alloc ex0) q ts d fl):=h.keepN f0
 have hb0:Hidden ((w.alloc ex0).heap[w.heap.size]?=some ex0):=alloc_new _ _
 clear h
 go_enter Tryz.func223,Tryz.ntmps223
 go_wp2_with fail
 go_at_call 64
 obtain ⟨r1,e1,hs⟩:=Pz.bd_some hs
 refine (name_c q ts d fl r1 e1 _ hP0).mono ?_
 clear e1
 rcases r1 with ⟨n,ts1⟩ | ⟨p,c⟩
 rotate_left
 ·obtain rfl:rs = .er p c:=hs
  rintro e W1 ⟨rfl,f1⟩
  unfold gP
  go_wp2_with fail
  exact ⟨rfl,rfl,(frq f0).same f1⟩
 rintro e W1 ⟨v,rfl,rfl,hP1,f1⟩
 have g1:=(frq f0).same f1
 have hb1:Hidden (W1.heap[w.heap.size]?=some ex0):=f1.heap hb0 (by omega)
 have hP1H:Hidden (Ps W1 q ts1 d false):=hP1
 clear hP1
 go_wp2_with fail
 go_at_call 110
 obtain ⟨r2,e2,hs⟩:=Pz.bd_some hs
 refine (has_c q [46] ts1 d r2 e2 _ hP1H).mono ?_
 clear e2
 rcases r2 with ⟨b,ts2⟩ | ⟨p,c⟩
 rotate_left
 ·obtain rfl:rs = .er p c:=hs
  rintro e W2 ⟨rfl,f2⟩
  unfold gP
  go_wp2_with fail
  exact ⟨rfl,rfl,g1.same f2⟩
 rintro e W2 ⟨v,rfl,rfl,hP2,f2⟩
 have g2:=g1.same f2
 have hb2:Hidden (W2.heap[w.heap.size]?=some ex0):=f2.heap hb1 (by omega)
 have hP2H:Hidden (Ps W2 q ts2 d false):=hP2
 clear hP2
 cases b
 ·obtain rfl:rs = .ok (⟨2,0,[],n,0,0⟩,.nil) ts2:=(Option.some.inj (show some _=some rs from hs)).symm
  obtain ⟨a0,a1,a2,a3,a4,a5,a6,x0,x1,x2,x3,x4,x5,x6⟩:=box7 hb2
  go_wp2_with fail
  have fs:=set7_fr W2 w.heap.size (ci 2) (ci 0) (.string ⟨#[]⟩) (ct n) (ci 0) (.int .u64 0) (.slice none 0 0)
  exact post_ex hb2 rfl rfl rfl ⟨_,rfl,⟨none,0,rfl,Nw.nil _ _⟩,Ps.high hP2H fs (fun k hk=>by subst hk;exact hq),g2.over fs (fun k hk=>by subst hk;exact Nat.le_refl _)⟩
 ·go_wp2_with fail
  go_at_call 64
  obtain ⟨r3,e3,hs⟩:=Pz.bd_some hs
  refine (name_c q ts2 d false r3 e3 _ hP2H).mono ?_
  clear e3
  rcases r3 with ⟨m,ts3⟩ | ⟨p,c⟩
  rotate_left
  ·obtain rfl:rs = .er p c:=hs
   rintro e W3 ⟨rfl,f3⟩
   unfold gP
   go_wp2_with fail
   exact ⟨rfl,rfl,g2.same f3⟩
  rintro e W3 ⟨v,rfl,rfl,hP3,f3⟩
  have g3:=g2.same f3
  have hb3:Hidden (W3.heap[w.heap.size]?=some ex0):=f3.heap hb2 (by omega)
  have hP3H:Hidden (Ps W3 q ts3 d false):=hP3
  clear hP3
  obtain rfl:rs = .ok (⟨3,0,n,m,0,0⟩,.nil) ts3:=(Option.some.inj (show some _=some rs from hs)).symm
  obtain ⟨a0,a1,a2,a3,a4,a5,a6,x0,x1,x2,x3,x4,x5,x6⟩:=box7 hb3
  go_wp2_with fail
  have fs:=set7_fr W3 w.heap.size (ci 3) (ci 0) (ct n) (ct m) (ci 0) (.int .u64 0) (.slice none 0 0)
  exact post_ex hb3 rfl rfl rfl ⟨_,rfl,⟨none,0,rfl,Nw.nil _ _⟩,Ps.high hP3H fs (fun k hk=>by subst hk;exact hq),g3.over fs (fun k hk=>by subst hk;exact Nat.le_refl _)⟩
end Go.Proofs.YteijjaabngkbjaaGreatDoor
namespace Go.Proofs.YteijjaabngkbjaaGreatDoor
open Go.RowKit Lx Te
def Chunks {α:Type} (R:World→α→List Value→Prop) (size:Nat) (w:World):List α→List Value→Prop
 | [],cs=>cs=[]
 | x::l,cs=>∃c rest,cs=c++rest∧c.length=size∧R w x c∧Chunks R size w l rest
theorem Chunks.snoc {α:Type} {R:World→α→List Value→Prop} {size:Nat} {w:World}:∀{l:List α} {cs:List Value} (_:Chunks R size w l cs) {x:α} {c:List Value} (_:c.length=size) (_:R w x c),Chunks R size w (l++[x]) (cs++c)
 | [],cs,h,x,c,hc,hr=>by
   obtain rfl:cs=[]:=h
   exact ⟨c,[],by simp,hc,hr,rfl⟩
 | y::l,cs,⟨d,rest,e,h1,h2,h3⟩,x,c,hc,hr=>by
   subst e
   exact ⟨d,rest++c,by simp,h1,h2,Chunks.snoc h3 hc hr⟩
theorem Chunks.get {α:Type} {R:World→α→List Value→Prop} {size:Nat} {w:World}:∀{l:List α} {cs:List Value} (_:Chunks R size w l cs) {i:Nat} {x:α} (_:l[i]?=some x),∃c,R w x c∧c.length=size∧∀j u,c[j]?=some u→cs[i*size+j]?=some u
 | [],cs,h,i,x,hi=>by simp at hi
 | y::l,cs,⟨d,rest,e,h1,h2,h3⟩,i,x,hi=>by
   subst e
   cases i with
   | zero =>
     obtain rfl:y=x:=by simpa using hi
     refine ⟨d,h2,h1,fun j u hj=>?_⟩
     rw [Nat.zero_mul,Nat.zero_add,List.getElem?_append_left (List.getElem?_eq_some_iff.1 hj).1]
     exact hj
   | succ i =>
     obtain ⟨c,h4,h5,h6⟩:=Chunks.get h3 (i:=i) (by simpa using hi)
     refine ⟨c,h4,h5,fun j u hj=>?_⟩
     rw [List.getElem?_append_right (by rw [h1,Nat.succ_mul];omega),h1,show (i+1)*size+j - size=i*size+j by rw [Nat.succ_mul];omega]
     exact h6 j u hj
def Row {α:Type} (R:World→α→List Value→Prop) (e:TypeId) (size:Nat) (w:World) (B:Nat) (v:Value) (l:List α):Prop :=
 ∃cells,w.ownsRow B e size v l.length cells∧∀w',Fr (fun k=>k<B∨v.ownBlock=some k) w w'→Chunks R size w' l cells
theorem Row.nil {α:Type} (R:World→α→List Value→Prop) (e:TypeId) (size:Nat) (w:World) (B:Nat):Row R e size w B (.slice none 0 0) [] :=
 ⟨[],World.ownsRow_nil w B e size,fun _ _=>rfl⟩
theorem own_keep {S:Nat→Prop} {w w':World} {B:Nat} {e:TypeId} {size:Nat} {v:Value} {n:Nat} {xs:List Value} (h:w.ownsRow B e size v n xs) (hf:Fr S w w') (hS:∀k,v.ownBlock=some k→¬S k):w'.ownsRow B e size v n xs:=by
 obtain ⟨h1,h2⟩:=h
 refine ⟨h1,?_⟩
 rcases h2 with h0 | ⟨g,cap,cur,rfl,hb,hg,hr⟩
 ·exact Or.inl h0
 ·exact Or.inr ⟨g,cap,cur,rfl,hb,hf.heap hg (hS g rfl),hr⟩
theorem Row.keep {α:Type} {R:World→α→List Value→Prop} {e:TypeId} {size:Nat} {S:Nat→Prop} {w w':World} {B:Nat} {v:Value} {l:List α} (h:Row R e size w B v l) (hf:Fr S w w') (hS:∀k,S k→k<B):Row R e size w' B v l:=by
 obtain ⟨cells,h1,h2⟩:=h
 refine ⟨cells,own_keep h1 hf (fun k hk hs=>?_),fun w'' hf'=>h2 w'' ((hf.mono (fun k _ hk=>Or.inl (hS k hk))).same hf')⟩
 have:=(World.ownsRow.lt h1 k hk).1
 have:=hS k hs
 omega
theorem Row.own {α:Type} {R:World→α→List Value→Prop} {e:TypeId} {size:Nat} {w:World} {B:Nat} {v:Value} {l:List α} (h:Row R e size w B v l):∀k,v.ownBlock=some k→B≤k∧k<w.heap.size:=by
 obtain ⟨cells,h1,h2⟩:=h
 exact World.ownsRow.lt h1
theorem Row.shape {α:Type} {R:World→α→List Value→Prop} {e:TypeId} {size:Nat} {w:World} {B:Nat} {v:Value} {l:List α} (h:Row R e size w B v l):∃ao cap,v = .slice ao l.length cap∧l.length≤cap∧cap≤maxLen:=by
 obtain ⟨cells,h1,h2⟩:=h
 rcases h1.2 with ⟨rfl,h0⟩ | ⟨g,cap,cur,rfl,hb,hg,hnc,hcm,_⟩
 ·exact ⟨none,0,by rw [h0],by omega,by decide⟩
 ·exact ⟨_,cap,rfl,hnc,hcm⟩
theorem wpList_row {α:Type} {R:World→α→List Value→Prop} {w:World} {ops:Array Oper} {rest:List Oper} {o:Oper} {a:Act} {Q:Exit→Act→World→Prop} (hgd:o.guard=none) (s x:Operand) (ty e:TypeId) (z:Value) (size bytes:Nat)
 (hty:Tryz.prog.underlying ty=some (.slice e)) (hinfo:(Tryz.prog.info? e).map (fun i=>(i.zero,i.size,i.bytes))=some (some z,size,bytes)) (hzs:z.cells.size=size) (hsz:0<size)
 (ho:o.op = .call { callee:=.builtin .append,args:=#[s,x],argTypes:=#[ty,ty] }) (B:Nat) (v:Value) (l:List α) (y:α) (news:List Value) (ad:Addr) (c:Nat)
 (hs:a.eval s=v) (hr:Row R e size w B v l) (hx:a.eval x = .slice (some ad) 1 c) (hl:news.length=size) (hc:∀(j:Nat) (u:Value),news[j]?=some u→w.cell? (ad.add j)=some u) (h1:∀u∈news,u.oneCell'=true)
 (hR:∀w',Fr (fun k=>k<B∨v.ownBlock=some k) w w'→R w' y news)
 (hn:l.length≤4000) (hb:bytes≤1000) (hB:B≤w.heap.size)
 (h:∀v' w',Row R e size w' B v' (l++[y])→Fr (fun k=>v.ownBlock=some k) w w'→wpList Tryz.prog ops Q rest (a.put o.dst v') w'):wpList Tryz.prog ops Q (o::rest) a w:=by
 obtain ⟨cells,hr1,hr2⟩:=hr
 cases hi:Tryz.prog.info? e with
 | none=>rw [hi] at hinfo;cases hinfo
 | some i =>
   rw [hi] at hinfo
   simp only [Option.map_some,Option.some.injEq,Prod.mk.injEq] at hinfo
   have hbb:(l.length+1)*bytes≤140737488355328:=Nat.le_trans (Nat.mul_le_mul (show l.length+1≤4001 by omega) hb) (by decide)
   refine wpList_append_own_at w hgd s x ty ho B e i z size bytes hty hi hinfo.1 hinfo.2.1 hinfo.2.2 hzs hsz v l.length cells hs hr1 ad 1 c news hx (by omega) hc h1 (by simp only [maxLen];omega) hbb hB ?_
   intro v' w' h2 h3 _ h5
   refine h v' w' ⟨cells++news,by rw [List.length_append];exact h2,fun w'' hf=>?_⟩ ((Fr.grown h3).mono (fun k _ hk=>hk.symm))
   have hF:Fr (fun k=>k<B∨v.ownBlock=some k) w w'':=by
    refine ((Fr.grown h3).mono (fun k _ hk=>Or.inr hk.symm)).trans hf (fun k hk hs=>?_)
    rcases hs with hs | hs
    ·exact Or.inl hs
    ·rcases h5 with h5 | h5
     ·exact Or.inr (h5 ▸ hs)
     ·rw [h5] at hs
      simp only [Option.some.injEq] at hs
      omega
   exact (hr2 w'' hF).snoc hl (hR w'' hF)
def Held {α:Type} (R:World→α→List Value→Prop) (size:Nat) (w:World) (ao:Option Addr) (cap:Nat) (l:List α):Prop :=
 l.length≤cap∧cap≤maxLen∧(l=[]∨∃b off,ao=some ⟨b,off,none⟩∧∀(i:Nat) (x:α),l[i]?=some x→∃c,R w x c∧c.length=size∧∀(j:Nat) (u:Value),c[j]?=some u→w.cell? ⟨b,off+i*size+j,none⟩=some u)
theorem Row.held {α:Type} {R:World→α→List Value→Prop} {e:TypeId} {size:Nat} {w:World} {B:Nat} {v:Value} {l:List α} (h:Row R e size w B v l):∃ao cap,v = .slice ao l.length cap∧Nw B w (fun w=>Held R size w ao cap l):=by
 obtain ⟨cells,h1,h2⟩:=h
 rcases h1.2 with ⟨rfl,h0⟩ | ⟨g,cap,cur,rfl,hb,hg,hnc,hcm,hcs,ht⟩
 ·exact ⟨none,0,by rw [h0],fun w' _=>⟨by omega,by decide,Or.inl (List.eq_nil_of_length_eq_zero h0)⟩⟩
 ·refine ⟨some ⟨g,0,none⟩,cap,rfl,fun w' hf=>⟨hnc,hcm,Or.inr ⟨g,0,rfl,fun i x hi=>?_⟩⟩⟩
  have hch:=h2 w' (hf.mono (fun k _ hk=>Or.inl hk))
  obtain ⟨c,h3,h4,h5⟩:=hch.get hi
  refine ⟨c,h3,h4,fun j u hj=>?_⟩
  have h6:=h5 j u hj
  rw [Nat.zero_add,cell_of_row w' g _ cur e (0,0) (hf.heap hg (by omega))]
  rw [←ht,List.getElem?_take] at h6
  split at h6
  ·simpa using h6
  ·cases h6
def Te.Exs.list:Exs→List (EH × Exs)
 | .nil=>[]
 | .cons h k r=>(h,k)::r.list
theorem Te.Exs.list_len:∀k:Exs,k.list.length=k.len
 | .nil=>rfl
 | .cons _ _ r=>by simp only [Exs.list,List.length_cons,Exs.len,Exs.list_len r]
theorem Te.Exs.list_app:∀k r:Exs,(k.app r).list=k.list++r.list
 | .nil,_=>rfl
 | .cons _ _ r,y=>by simp only [Exs.app,Exs.list,Exs.list_app r y,List.cons_append]
def RE (w:World) (x:EH × Exs) (c:List Value):Prop:=∃ao cap,c=exC x.1 (.slice ao x.2.len cap)∧ExL w ao cap x.2
theorem exA_of (w:World) (b:Nat):∀(k:Exs) (off:Nat),(∀(i:Nat) (x:EH × Exs),k.list[i]?=some x→∃c,RE w x c∧c.length=7∧∀(j:Nat) (u:Value),c[j]?=some u→w.cell? ⟨b,off+i*7+j,none⟩=some u)→ExA w k b off
 | .nil,_,_=>trivial
 | .cons h k r,off,H=>by
   obtain ⟨c,⟨ao,cap,rfl,hk⟩,_,hc⟩:=H 0 (h,k) rfl
   refine ⟨⟨ao,cap,fun j x hx=>by have:=hc j x hx;simpa using this,hk.1,hk.2.1,hk.2.2⟩,exA_of w b r (off+7) (fun i x hx=>?_)⟩
   obtain ⟨c,h1,h2,h3⟩:=H (i+1) x hx
   exact ⟨c,h1,h2,fun j u hu=>by rw [show off+7+i*7+j=off+(i+1)*7+j by omega];exact h3 j u hu⟩
theorem exL_of {w:World} {ao:Option Addr} {cap:Nat} {k:Exs} (h:Held RE 7 w ao cap k.list):ExL w ao cap k:=by
 obtain ⟨h1,h2,h3⟩:=h
 refine ⟨by rw [←Exs.list_len];exact h1,h2,?_⟩
 rcases h3 with h3 | ⟨b,off,rfl,h3⟩
 ·left;rw [←Exs.list_len,h3];rfl
 ·exact Or.inr ⟨b,off,rfl,exA_of w b k off h3⟩
def Te.Sts.list:Sts→List (SH × Exs × Sts × Sts)
 | .nil=>[]
 | .cons h e b l r=>(h,e,b,l)::r.list
theorem Te.Sts.list_len:∀k:Sts,k.list.length=k.len
 | .nil=>rfl
 | .cons _ _ _ _ r=>by simp only [Sts.list,List.length_cons,Sts.len,Sts.list_len r]
theorem Te.Sts.list_app:∀k r:Sts,(k.app r).list=k.list++r.list
 | .nil,_=>rfl
 | .cons _ _ _ _ r,y=>by simp only [Sts.app,Sts.list,Sts.list_app r y,List.cons_append]
def RS (w:World) (x:SH × Exs × Sts × Sts) (c:List Value):Prop:=∃ao1 cap1 ao2 cap2 ao3 cap3,c=stC x.1 (.slice ao1 x.2.1.len cap1) (.slice ao2 x.2.2.1.len cap2) (.slice ao3 x.2.2.2.len cap3)∧ExL w ao1 cap1 x.2.1∧StL w ao2 cap2 x.2.2.1∧StL w ao3 cap3 x.2.2.2
theorem stA_of (w:World) (b:Nat):∀(k:Sts) (off:Nat),(∀(i:Nat) (x:SH × Exs × Sts × Sts),k.list[i]?=some x→∃c,RS w x c∧c.length=5∧∀(j:Nat) (u:Value),c[j]?=some u→w.cell? ⟨b,off+i*5+j,none⟩=some u)→StA w k b off
 | .nil,_,_=>trivial
 | .cons h e bo el r,off,H=>by
   obtain ⟨c,⟨ao1,cap1,ao2,cap2,ao3,cap3,rfl,h1,h2,h3⟩,_,hc⟩:=H 0 (h,e,bo,el) rfl
   refine ⟨⟨ao1,cap1,ao2,cap2,ao3,cap3,fun j x hx=>by have:=hc j x hx;simpa using this,h1,h2,h3⟩,stA_of w b r (off+5) (fun i x hx=>?_)⟩
   obtain ⟨c,h1,h2,h3⟩:=H (i+1) x hx
   exact ⟨c,h1,h2,fun j u hu=>by rw [show off+5+i*5+j=off+(i+1)*5+j by omega];exact h3 j u hu⟩
theorem stL_of {w:World} {ao:Option Addr} {cap:Nat} {k:Sts} (h:Held RS 5 w ao cap k.list):StL w ao cap k:=by
 obtain ⟨h1,h2,h3⟩:=h
 refine ⟨by rw [←Sts.list_len];exact h1,h2,?_⟩
 rcases h3 with h3 | ⟨b,off,rfl,h3⟩
 ·left;rw [←Sts.list_len,h3];rfl
 ·exact Or.inr ⟨b,off,rfl,stA_of w b k off h3⟩
def RP (w:World) (x:Pa) (c:List Value):Prop:=c=paC x
def RD (w:World) (x:De) (c:List Value):Prop:=∃pv ev bv,c=deC x pv ev bv∧DeI w x pv ev bv
def RT (w:World) (x:Bs) (c:List Value):Prop:=c=[ct x]
theorem paL_of {w:World} {ao:Option Addr} {cap:Nat} {l:List Pa} (h:Held RP 2 w ao cap l):PaL w ao cap l:=by
 obtain ⟨h1,h2,h3⟩:=h
 refine ⟨h1,h2,?_⟩
 rcases h3 with h3 | ⟨b,off,rfl,h3⟩
 ·exact Or.inl h3
 ·refine Or.inr ⟨b,off,rfl,fun i p hp j x hx=>?_⟩
  obtain ⟨c,h4,_,h5⟩:=h3 i p hp
  obtain rfl:c=paC p:=h4
  exact h5 j x hx
theorem deL_of {w:World} {ao:Option Addr} {cap:Nat} {l:List De} (h:Held RD 7 w ao cap l):DeL w ao cap l:=by
 obtain ⟨h1,h2,h3⟩:=h
 refine ⟨h1,h2,?_⟩
 rcases h3 with h3 | ⟨b,off,rfl,h3⟩
 ·exact Or.inl h3
 ·refine Or.inr ⟨b,off,rfl,fun i p hp=>?_⟩
  obtain ⟨c,⟨pv,ev,bv,rfl,h4⟩,_,h5⟩:=h3 i p hp
  exact ⟨pv,ev,bv,h4,fun j x hx=>h5 j x hx⟩
theorem svL_of {w:World} {ao:Option Addr} {cap:Nat} {l:List Bs} (h:Held RT 1 w ao cap l):SvL w ao cap l:=by
 obtain ⟨h1,h2,h3⟩:=h
 refine ⟨h1,h2,?_⟩
 rcases h3 with h3 | ⟨b,off,rfl,h3⟩
 ·exact Or.inl h3
 ·refine Or.inr ⟨b,off,rfl,fun i x hx=>?_⟩
  obtain ⟨c,h4,_,h5⟩:=h3 i x hx
  obtain rfl:c=[ct x]:=h4
  have:=h5 0 _ rfl
  simpa using this
end Go.Proofs.YteijjaabngkbjaaGreatDoor
namespace Go.Proofs.YteijjaabngkbjaaGreatDoor
open Go.RowKit Lx Te
theorem Pz.opn_lt {s:Bs} {fl:Bool} {d:Nat} {ts ts':List Tok} {u:Unit} (hd:d≤32) (h:Pz.opn s fl d ts=some (.ok u ts')):d+1≤32:=by
 cases ts with
 | nil=>simp [Pz.opn] at h
 | cons t r =>
   simp only [Pz.opn] at h
   by_cases h1:d=32
   ·rw [if_pos h1] at h
    split at h<;>simp at h
   ·omega
def OutR {α:Type} (R:World→α→List Value→Prop) (el:TypeId) (size q d B:Nat) (v:Value) (l:List α) (w:World) (r:Pz.Rs α) (e:Ending) (w':World):Prop :=
 match r with
 | .ok x ts=>∃v',e = .returned v'∧Row R el size w' B v' (l++[x])∧Ps w' q ts d false∧Fr (fun k=>k=q∨v.ownBlock=some k) w w'
 | .er p c=>e=gP p c∧Fr (fun k=>k=q) w w'
theorem add0 (b j:Nat):(⟨b,0,none⟩:Addr).add j=⟨b,j,none⟩:=by unfold Addr.add;split<;>simp_all
theorem info_moreE:(Tryz.prog.info? 59).map (fun i=>(i.zero,i.size,i.bytes))=some (some (.agg #[.int .i64 0,.int .i64 0,.string ⟨#[]⟩,.string ⟨#[]⟩,.int .i64 0,.int .u64 0,.slice none 0 0]),7,88):=by kernel_rfl
theorem moreE_c (q B:Nat) (v:Value) (l:List Pz.Ex) (most:Int) (ts:List Tok) (d:Nat) (fl fl':Bool) (rs:Pz.Rs Pz.Ex) (w:World) (hfl:((l.length:Int) == most)=fl') (hl:l.length≤4000) (hr0:Row RE 59 7 w B v l) (hqB:q<B) (hB:B≤w.heap.size)
 (k1:∀w1,Ps w1 q ts d fl'→Calls Tryz.prog 59 #[pp q] w1 (Out TE q d w1 rs)) (h:Ps w q ts d fl) :
 Calls Tryz.prog 259 #[pp q,v,ci most,.func (.func 59) #[] #[]] w (OutR RE 59 7 q d B v l w rs):=by
 have hq:=h.lt
 obtain ⟨aor,capr,rfl,hlen,hcap⟩:=hr0.shape
 have hcap2:capr≤9223372036854775807:=by unfold maxLen at hcap;omega
 obtain ⟨c2,z2⟩:=h.fullC
 have hP1:Hidden (Ps (w.setCell ⟨q,2,none⟩ (.bool fl')) q ts d fl'):=h.setFull fl'
 have fq:=Fr.put w q 2 (.bool fl')
 have hr1:Hidden (Row RE 59 7 (w.setCell ⟨q,2,none⟩ (.bool fl')) B (.slice aor l.length capr) l):=hr0.keep fq (fun k hk=>by subst hk;exact hqB)
 have k2:=k1 _ hP1
 have hsz:(w.setCell ⟨q,2,none⟩ (.bool fl')).heap.size=w.heap.size:=by simp
 have hszH:Hidden ((w.setCell ⟨q,2,none⟩ (.bool fl')).heap.size=w.heap.size):=hsz
 clear h k1 hsz
 go_enter Tryz.func259,Tryz.ntmps259
 go_wp2_with fail
 go_at_call 59
 refine k2.mono ?_
 rcases rs with ⟨x,ts1⟩ | ⟨p,c⟩
 rotate_left
 ·rintro e W1 ⟨rfl,f1⟩
  unfold gP
  go_wp2_with fail
  exact ⟨rfl,rfl,fq.same f1⟩
 rintro e W1 ⟨v1,rfl,⟨ao,cap,rfl,hN⟩,hQ1,f1⟩
 have s1:w.heap.size≤W1.heap.size:=by have:=f1.size;rw [show _=w.heap.size from hszH] at this;exact this
 rw [show _=w.heap.size from hszH] at hN
 have hr2:Hidden (Row RE 59 7 W1 B (.slice aor l.length capr) l):=Row.keep hr1 f1 (fun k hk=>by subst hk;exact hqB)
 have hQH:Hidden (Ps W1 q ts1 d false):=hQ1
 have fa:=Fr.alloc (fun _=>False) W1 (.cells #[ci x.1.kind,ci x.1.op,ct x.1.mod,ct x.1.name,ci x.1.vt,.int .u64 x.1.vb,.slice ao x.2.len cap] 59)
 clear hQ1
 go_wp2_with (at_builtin
              go_must (refine wpList_row (R:=RE) rfl _ _ 48 59 _ 7 88 Tryz.underlying48 info_moreE rfl (by decide) rfl B (.slice aor l.length capr) l x (exC x.1 (.slice ao x.2.len cap)) ⟨W1.heap.size,0,none⟩ 1 rfl ?c0 rfl rfl ?c1 ?c2 ?c3 hl (by decide) ?c4 ?_)
              case c0=>go_must (exact Row.keep hr2 fa (fun _ f=>f.elim))
              case c1=>go_must (exact fun j u hu=>by rw [add0,cell_of_row _ _ j _ _ _ (alloc_new _ _)];simpa [exC,paC,deC] using hu)
              case c2=>go_must (exact fun u hu=>by simp only [exC,paC,deC,List.mem_cons,List.not_mem_nil,or_false] at hu;rcases hu with rfl | rfl | rfl | rfl | rfl | rfl | rfl<;>rfl)
              case c3=>go_must (exact fun w' hf=>⟨ao,cap,rfl,(hN.step fa (fun _ f=>f.elim)) w' (hf.mono (fun k _ hk=>by rcases hk with hk | hk;(omega);(have:=(hr0.own k hk).2;omega)))⟩)
              case c4=>go_must (simp;omega)
              intro v2 W2 hr3 f3)
 go_ret
 have fall:Fr (fun k=>k=q∨Value.ownBlock (.slice aor l.length capr)=some k) w W2:=(((fq.same f1).same (frq fa)).mono (fun k _ hk=>Or.inl hk)).same (f3.mono (fun k _ hk=>Or.inr hk))
 exact ⟨_,rfl,hr3,(Ps.keepN hQH fa).high f3 (fun k hk=>by have:=(hr0.own k hk).1;omega),fall⟩
def CE (E:Bool→Nat→List Tok→Pz.Ou Pz.Ex):Prop:=∀(fl:Bool) (d:Nat) (ts:List Tok) (rs:Pz.Rs Pz.Ex) (q:Nat) (w:World),d≤32→E fl d ts=some rs→Ps w q ts d fl →
 Calls Tryz.prog 59 #[pp q] w (Out TE q d w rs)
def TL (l:Exs) (v:Value) (w w':World):Prop:=∃ao cap,v = .slice ao l.len cap∧Nw w.heap.size w' (fun w=>ExL w ao cap l)
def TP (l:List Pa) (v:Value) (w w':World):Prop:=∃ao cap,v = .slice ao l.length cap∧Nw w.heap.size w' (fun w=>PaL w ao cap l)
section
variable {E:Bool→Nat→List Tok→Pz.Ou Pz.Ex} (hE:CE E)
include hE
theorem ins_c (q:Nat) (ts:List Tok) (d:Nat) (hd:d≤32) (fl:Bool) (rs:Pz.Rs Pz.Ex) (hs:Hidden (Pz.ins E fl d ts=some rs)) (w:World) (h:Ps w q ts d fl) :
 Calls Tryz.prog 225 #[pp q] w (Out TE q d w rs):=by
 have hq:=h.lt
 have f0:=Fr.alloc (fun _=>False) w ex0
 have g0:Fr (fun k=>k=q) w (w.alloc ex0):=frq f0
 have hP0:Hidden (Ps (w.alloc ex0) q ts d fl):=h.keepN f0
 have hb0:Hidden ((w.alloc ex0).heap[w.heap.size]?=some ex0):=alloc_new _ _
 clear h
 go_enter Tryz.func225,Tryz.ntmps225
 go_wp2_with fail
 go_at_call 196
 obtain ⟨r1,e1,hs⟩:=Pz.bd_some hs
 refine (opn_c q [40] ts d hd fl r1 e1 _ hP0).mono ?_
 rcases r1 with ⟨u,ts1⟩ | ⟨p,c⟩
 rotate_left
 ·obtain rfl:rs = .er p c:=hs
  rintro e W1 ⟨rfl,f1⟩
  unfold gP
  go_wp2_with fail
  exact ⟨rfl,rfl,g0.same f1⟩
 rintro e W1 ⟨v1,rfl,rfl,hQ1,f1⟩
 have g1:=g0.same f1
 have s1:=f1.size
 have t1:=g1.size
 have hP1:Hidden (Ps W1 q ts1 (d+1) false):=hQ1
 clear hQ1
 simp only [World.size_alloc] at s1
 have hb0_1:Hidden (W1.heap[w.heap.size]?=some (ex0)):=f1.heap hb0 (by omega)
 have hd1:=Pz.opn_lt hd e1
 clear e1
 go_wp2_with fail
 go_at_call 59
 obtain ⟨r2,e2,hs⟩:=Pz.bd_some hs
 refine (hE false (d+1) ts1 r2 q _ hd1 e2 hP1).mono ?_
 clear e2
 rcases r2 with ⟨x,ts2⟩ | ⟨p,c⟩
 rotate_left
 ·obtain rfl:rs = .er p c:=hs
  rintro e W2 ⟨rfl,f2⟩
  unfold gP
  go_wp2_with fail
  exact ⟨rfl,rfl,g1.same f2⟩
 rintro e W2 ⟨v2,rfl,⟨ao,cap,rfl,hN⟩,hQ2,f2⟩
 have g2:=g1.same f2
 have s2:=f2.size
 have t2:=g2.size
 have hP2:Hidden (Ps W2 q ts2 (d+1) false):=hQ2
 clear hQ2
 have hb0_2:Hidden (W2.heap[w.heap.size]?=some (ex0)):=f2.heap hb0_1 (by omega)
 have fab1:=Fr.alloc (fun _=>False) W2 (.cells #[ci x.1.kind,ci x.1.op,ct x.1.mod,ct x.1.name,ci x.1.vt,.int .u64 x.1.vb,.slice ao x.2.len cap] 59)
 have gb1:Fr (fun k=>k=q) w (W2.alloc (.cells #[ci x.1.kind,ci x.1.op,ct x.1.mod,ct x.1.name,ci x.1.vt,.int .u64 x.1.vb,.slice ao x.2.len cap] 59)):=g2.same (frq fab1)
 have hPb1:Hidden (Ps (W2.alloc (.cells #[ci x.1.kind,ci x.1.op,ct x.1.mod,ct x.1.name,ci x.1.vt,.int .u64 x.1.vb,.slice ao x.2.len cap] 59)) q ts2 (d+1) false):=Ps.keepN hP2 fab1
 have hnb1:Hidden ((W2.alloc (.cells #[ci x.1.kind,ci x.1.op,ct x.1.mod,ct x.1.name,ci x.1.vt,.int .u64 x.1.vb,.slice ao x.2.len cap] 59)).heap[W2.heap.size]?=some (.cells #[ci x.1.kind,ci x.1.op,ct x.1.mod,ct x.1.name,ci x.1.vt,.int .u64 x.1.vb,.slice ao x.2.len cap] 59)):=alloc_new _ _
 have hb0_b1:Hidden ((W2.alloc (.cells #[ci x.1.kind,ci x.1.op,ct x.1.mod,ct x.1.name,ci x.1.vt,.int .u64 x.1.vb,.slice ao x.2.len cap] 59)).heap[w.heap.size]?=some (ex0)):=fab1.heap hb0_2 (fun f=>f)
 go_wp2_with fail
 go_at_call 198
 obtain ⟨r3,e3,hs⟩:=Pz.bd_some hs
 refine (shut_c q [41] ts2 d hd r3 e3 _ hPb1).mono ?_
 clear e3
 rcases r3 with ⟨u2,ts3⟩ | ⟨p,c⟩
 rotate_left
 ·obtain rfl:rs = .er p c:=hs
  rintro e W3 ⟨rfl,f3⟩
  unfold gP
  go_wp2_with fail
  exact ⟨rfl,rfl,gb1.same f3⟩
 rintro e W3 ⟨v3,rfl,rfl,hQ3,f3⟩
 have g3:=gb1.same f3
 have s3:=f3.size
 have t3:=g3.size
 have hP3:Hidden (Ps W3 q ts3 d false):=hQ3
 clear hQ3
 simp only [World.size_alloc] at s3
 have hb0_3:Hidden (W3.heap[w.heap.size]?=some (ex0)):=f3.heap hb0_b1 (by omega)
 have hb1_3:Hidden (W3.heap[W2.heap.size]?=some (.cells #[ci x.1.kind,ci x.1.op,ct x.1.mod,ct x.1.name,ci x.1.vt,.int .u64 x.1.vb,.slice ao x.2.len cap] 59)):=f3.heap hnb1 (by omega)
 obtain rfl:rs = .ok x ts3:=(Option.some.inj (show some _=some rs from hs)).symm
 obtain ⟨b0c0,b0c1,b0c2,b0c3,b0c4,b0c5,b0c6,b0z0,b0z1,b0z2,b0z3,b0z4,b0z5,b0z6⟩:=box7 hb0_3
 obtain ⟨b1c0,b1c1,b1c2,b1c3,b1c4,b1c5,b1c6,b1z0,b1z1,b1z2,b1z3,b1z4,b1z5,b1z6⟩:=box7 hb1_3
 go_wp2_with fail
 have fs:=set7_fr W3 w.heap.size (ci x.1.kind) (ci x.1.op) (ct x.1.mod) (ct x.1.name) (ci x.1.vt) (.int .u64 x.1.vb) (.slice ao x.2.len cap)
 exact post_ex hb0_3 rfl rfl rfl ⟨_,rfl,⟨ao,cap,rfl,(((hN.step fab1 (fun _ f=>f.elim)).step f3 (fun k hk=>by subst hk;omega)).step fs (fun k hk=>by subst hk;omega)).weak (by omega)⟩,Ps.high hP3 fs (fun k hk=>by subst hk;exact hq),g3.over fs (fun k hk=>by subst hk;exact Nat.le_refl _)⟩
omit hE in
theorem beq8 (n:Nat):((n:Int) == 8)=(n == 8):=by
 by_cases h:n=8
 ·subst h;rfl
 ·have h1:(n == 8)=false:=by simpa using h
  rw [h1,beq_eq_false_iff_ne]
  omega
theorem rowE_c (g:Nat) (hg:g≤3000) (q:Nat) (ts:List Tok) (d:Nat) (hd:d≤32) (fl:Bool) (rs:Pz.Rs Exs) (hs:Hidden (Pz.bd (E false d ts) (fun e ts=>Pz.rwE E d g (.cons e.1 e.2 .nil) ts)=some rs)) (w:World) (h:Ps w q ts d fl) :
 Calls Tryz.prog 251 #[pp q,ci 8,.func (.func 59) #[] #[]] w (Out TL q d w rs):=by
 have hq:=h.lt
 have hP0:Hidden (Ps w q ts d fl):=h
 clear h
 go_enter Tryz.func251,Tryz.ntmps251
 go_wp2_with fail
 go_at_call 259
 obtain ⟨r1,e1,hs⟩:=Pz.bd_some hs
 refine (moreE_c q w.heap.size (.slice none 0 0) [] 8 ts d fl false r1 w rfl (by simp) (Row.nil _ _ _ _ _) hq (Nat.le_refl _) (fun w1 hp=>hE false d ts r1 q w1 hd e1 hp) hP0).mono ?_
 clear e1
 rcases r1 with ⟨x,ts1⟩ | ⟨p,c⟩
 rotate_left
 ·obtain rfl:rs = .er p c:=hs
  rintro e W1 ⟨rfl,f1⟩
  unfold gP
  go_wp2_with fail
  exact ⟨rfl,rfl,f1⟩
 rintro e W1 ⟨v1,rfl,hr1,hQ1,f1⟩
 have g1:Fr (fun k=>k=q) w W1:=f1.mono (fun k _ hk=>by rcases hk with hk | hk;(exact hk);(simp [Value.ownBlock] at hk))
 have hQH:Hidden (Ps W1 q ts1 d false):=hQ1
 have hrH:Hidden (Row RE 59 7 W1 w.heap.size v1 ([]++[x])):=hr1
 have hs2:Hidden (Pz.rwE E d g (.cons x.1 x.2 .nil) ts1=some rs):=hs
 clear hQ1 hr1 hs
 go_wp2_with fail
 go_loopg [7] g (fun k lx wr=>∃(lv:Value) (acc:Exs) (us:List Tok),lv=lx∧Pz.rwE E d k acc us=some rs∧Row RE 59 7 wr w.heap.size lv acc.list∧acc.len+k≤g+1∧Ps wr q us d false∧Fr (fun k=>k=q) w wr)
 case atStart=>exact ⟨_,(.cons x.1 x.2 .nil),ts1,rfl,hs2,hrH,by simp [Exs.len];omega,hQH,g1⟩
 case round =>
  obtain ⟨lv,acc,us,rfl,hspec,hrow,hlen,hps,hfr⟩:=hrel
  have hspecH:Hidden (Pz.rwE E d gk acc us=some rs):=hspec
  have hrowH:Hidden (Row RE 59 7 wr w.heap.size lv acc.list):=hrow
  have hpsH:Hidden (Ps wr q us d false):=hps
  have hlenH:Hidden (acc.len+gk≤g+1):=hlen
  clear hspec hps hlen hs2 hrow
  cases gk with
  | zero=>exact absurd hspecH (by simp [Hidden,Pz.rwE])
  | succ gk =>
    cases us with
    | nil=>exact absurd hspecH (by simp [Hidden,Pz.rwE])
    | cons t r =>
      by_cases hx:t.x=[44]
      ·have hs3:=hspecH
       simp only [Hidden,Pz.rwE,if_pos hx] at hs3
       have hs4:Hidden (Pz.bd _ _=some rs):=hs3
       have kh:=has_yes q [44] t r d hx wr hpsH
       clear hspecH hx hs3 hpsH
       go_wp2_with fail
       go_at_call 110
       refine kh.mono ?_
       rintro e W2 ⟨rfl,hp2,f2⟩
       have hp2H:Hidden (Ps W2 q r d false):=hp2
       have hrow2:=Row.keep hrowH f2 (fun k hk=>by subst hk;exact hq)
       have hrow2H:Hidden (Row RE 59 7 W2 w.heap.size lv acc.list):=hrow2
       have g2:=hfr.same f2
       have s2:=g2.size
       clear hp2 hrow2 kh
       go_wp2_with fail
       go_at_call 259
       obtain ⟨r1,e1,hs⟩:=Pz.bd_some hs4
       refine (moreE_c q w.heap.size lv acc.list 8 r d false (acc.len == 8) r1 W2 (by rw [Exs.list_len];exact beq8 acc.len) (by have h9:acc.len+(gk+1)≤g+1:=hlenH;rw [Exs.list_len];omega) hrow2H hq s2 (fun w1 hp=>hE _ d r r1 q w1 hd e1 hp) hp2H).mono ?_
       clear e1
       rcases r1 with ⟨x,ts2⟩ | ⟨p,c⟩
       rotate_left
       ·obtain rfl:rs = .er p c:=hs
        rintro e W3 ⟨rfl,f3⟩
        unfold gP
        go_wp2_with fail
        exact ⟨rfl,rfl,g2.same f3⟩
       rintro e W3 ⟨v3,rfl,hr2,hQ3,f3⟩
       have g3:Fr (fun k=>k=q) w W3:=g2.trans f3 (fun k hk hs=>by rcases hs with hs | hs;(exact hs);(have:=(Row.own hrow2H k hs).1;omega))
       go_wp2_with fail
       go_roundg gk
       case measure=>omega
       case rel=>exact ⟨_,(acc.app (.cons x.1 x.2 .nil)),ts2,rfl,hs,by rw [Exs.list_app];exact hr2,by have h9:acc.len+(gk+1)≤g+1:=hlenH;rw [Exs.app_len];simp only [Exs.len];omega,hQ3,g3⟩
      ·have hs3:=hspecH
       simp only [Hidden,Pz.rwE,if_neg hx] at hs3
       obtain rfl:rs = .ok acc (t::r):=(Option.some.inj hs3).symm
       have kh:=has_no q [44] t r d false hx wr hpsH
       clear hspecH hx hs3
       obtain ⟨ao,cap,rfl,hN⟩:=Row.held hrowH
       have hN2:=(show Nw w.heap.size wr (fun w=>ExL w ao cap acc) from fun w1 hf=>exL_of (hN w1 hf))
       clear hrowH
       go_wp2_with fail
       go_at_call 110
       refine kh.mono ?_
       rintro e W2 ⟨rfl,f2⟩
       go_wp2_with fail
       go_ret
       exact ⟨_,rfl,⟨ao,cap,by rw [←Exs.list_len];rfl,hN2.step f2 (fun _ f=>f.elim)⟩,Ps.keepN hpsH f2,hfr.same (frq f2)⟩
end
end Go.Proofs.YteijjaabngkbjaaGreatDoor
namespace Go.Proofs
open Go.Shelf
def Tryz.lays156_ren:Go.Shelf.Ren:=⟨fun | 156=>128 | 165=>170 | 166=>78 | 169=>39 | 240=>127 | 241=>213 | 276=>169 | 277=>240 | n=>n,fun | 31=>22 | 9=>9 | 3=>3 | 4=>4 | 0=>0 | 20=>20 | 72=>78 | 76=>128 | 70=>76 | 37=>46 | 75=>127 | 127=>133 | 164=>194 | 5=>5 | 80=>83 | n=>n,fun | n=>n⟩
theorem Tryz.lays156:Go.Proofs.Lays.n156 Tryz.prog Tryz.lays156_ren:={
 mixed:=by kernel_rfl
 f156:=Tryz.func128.trans (congrArg some (by kernel_rfl))
 f165:=Tryz.func170.trans (congrArg some (by kernel_rfl))
 f166:=Tryz.func78.trans (congrArg some (by kernel_rfl))
 f169:=Tryz.func39.trans (congrArg some (by kernel_rfl))
 f240:=Tryz.func127.trans (congrArg some (by kernel_rfl))
 f241:=Tryz.func213.trans (congrArg some (by kernel_rfl))
 f276:=Tryz.func169.trans (congrArg some (by kernel_rfl))
 f277:=Tryz.func240.trans (congrArg some (by kernel_rfl))
 t0:=Tryz.underlying0
 a0:=Tryz.isAgg0
 z0:=Tryz.sizeOf0
 v0:=Tryz.zeroValue0
 t3:=Tryz.underlying3
 a3:=Tryz.isAgg3
 z3:=Tryz.sizeOf3
 v3:=Tryz.zeroValue3
 t4:=Tryz.underlying4
 a4:=Tryz.isAgg4
 z4:=Tryz.sizeOf4
 v4:=Tryz.zeroValue4
 t9:=Tryz.underlying9
 a9:=Tryz.isAgg9
 z9:=Tryz.sizeOf9
 v9:=Tryz.zeroValue9
 t20:=Tryz.underlying20
 a20:=Tryz.isAgg20
 z20:=Tryz.sizeOf20
 v20:=Tryz.zeroValue20
 t31:=Tryz.underlying22
 a31:=Tryz.isAgg22
 z31:=Tryz.sizeOf22
 v31:=Tryz.zeroValue22
 t37:=Tryz.underlying46
 a37:=Tryz.isAgg46
 z37:=Tryz.sizeOf46
 v37:=Tryz.zeroValue46
 t70:=Tryz.underlying76
 a70:=Tryz.isAgg76
 z70:=Tryz.sizeOf76
 v70:=Tryz.zeroValue76
 t72:=Tryz.underlying78
 a72:=Tryz.isAgg78
 z72:=Tryz.sizeOf78
 v72:=Tryz.zeroValue78
 t75:=Tryz.underlying127
 a75:=Tryz.isAgg127
 z75:=Tryz.sizeOf127
 v75:=Tryz.zeroValue127
 t76:=Tryz.underlying128
 a76:=Tryz.isAgg128
 z76:=Tryz.sizeOf128
 v76:=Tryz.zeroValue128
 t127:=Tryz.underlying133
 a127:=Tryz.isAgg133
 z127:=Tryz.sizeOf133
 v127:=Tryz.zeroValue133
 t164:=Tryz.underlying194
 a164:=Tryz.isAgg194
 z164:=Tryz.sizeOf194
 v164:=Tryz.zeroValue194 }
theorem Tryz.Builder_Extra_156:Builder.Extra Tryz.prog Tryz.lays156_ren:={
 sizeBuilder:=by kernel_rfl
 liesBuilder:=by kernel_rfl
 t5:=Tryz.underlying5
 a5:=Tryz.isAgg5
 z5:=Tryz.sizeOf5
 v5:=Tryz.zeroValue5
 infoByte:=by kernel_rfl
 cellsByte:=by kernel_rfl
 sizeByte:=by kernel_rfl
 neB5:=by decide }
open Go.RowKit in
theorem Tryz.strings_Join_none (a:Option Addr) (c:Nat) (sep:ByteArray) (w:World) :
 Calls Tryz.prog 128 #[.slice a 0 c,.string sep] w fun e w'=>e = .returned (.string ⟨#[]⟩)∧w'=w:=Any.strings_Join_none Tryz.lays156 Tryz.Builder_Extra_156 a c sep w
open Go.RowKit in
theorem Tryz.strings_Join (bk o c:Nat) (xs:List ByteArray) (sep:ByteArray) (w:World) (hcells:∀(j:Nat) x,xs[j]?=some x→w.cell? ⟨bk,o+j,none⟩=some (.string x)) (hbk:bk<w.heap.size) (hN:xs.length≤140737488355328) (hcap:xs.length≤c) (hlen:(Lib.join (xs.map (·.data.toList)) sep.data.toList).length≤140737488355328) :
 Calls Tryz.prog 128 #[.slice (some ⟨bk,o,none⟩) xs.length c,.string sep] w fun e w'=>e = .returned (.string ⟨(Lib.join (xs.map (·.data.toList)) sep.data.toList).toArray⟩)∧Below w.heap.size w w':=Any.strings_Join Tryz.lays156 Tryz.Builder_Extra_156 bk o c xs sep w hcells hbk hN hcap hlen
end Go.Proofs
namespace Go.Proofs.YteijjaabngkbjaaGreatDoor
open Go.RowKit Lx Te
theorem Pz.bd_assoc {α β γ:Type} (m:Pz.Ou α) (k:α→List Tok→Pz.Ou β) (k2:β→List Tok→Pz.Ou γ):Pz.bd m (fun a ts=>Pz.bd (k a ts) k2)=Pz.bd (Pz.bd m k) k2:=by
 match m with
 | none=>rfl
 | some (.er p c)=>rfl
 | some (.ok a ts)=>rfl
theorem Ps.second {w:World} {q:Nat} {t u:Tok} {r:List Tok} {d:Nat} {fl:Bool} (h:Ps w q (t::u::r) d fl):∃g off cap,w.cell? ⟨q,0,none⟩=some (.slice (some ⟨g,off,none⟩) (r.length+1+1) cap)∧r.length+1+1≤cap∧cap≤9223372036854775807 ∧
 w.cell? ⟨g,off+5+1,none⟩=some (.string ⟨u.x.toArray⟩):=by
 obtain ⟨g,off,cap,h1,h2,h3,h4,_,_,_,_,_,h5⟩:=h.head
 refine ⟨g,off,cap,cell_of_row _ _ 0 _ _ _ h1,h3,h4,?_⟩
 have:=h5 0 u rfl 1 _ rfl
 simpa using this
section
variable {E:Bool→Nat→List Tok→Pz.Ou Pz.Ex} (hE:CE E)
include hE
theorem args_c (g:Nat) (hg:g≤3000) (q:Nat) (ts:List Tok) (d:Nat) (hd:d≤32) (rs:Pz.Rs Exs) (hs:Hidden (Pz.args E g d ts=some rs)) (w:World) (h:Ps w q ts d false) :
 Calls Tryz.prog 242 #[pp q] w (Out TL q d w rs):=by
 obtain rfl | ⟨t,r,rfl⟩:ts=[]∨∃t r,ts=t::r:=by cases ts with | nil=>exact Or.inl rfl | cons t r=>exact Or.inr ⟨t,r,rfl⟩
 ·exact absurd hs (by simp [Hidden,Pz.args])
 by_cases hx:t.x=[40]
 ·obtain rfl | ⟨u,r,rfl⟩:r=[]∨∃t r',r=t::r':=by cases r with | nil=>exact Or.inl rfl | cons t r=>exact Or.inr ⟨t,r,rfl⟩
  ·exact absurd hs (by simp [Hidden,Pz.args,hx])
  by_cases hy:u.x=[41]
  ·skip
   have hq:=h.lt
   have g0:=Fr.refl (fun k=>k=q) w
   have hP0:Hidden (Ps w q (t::u::r) d false):=h
   clear h
   have ki:=is_any q [40] t (u::r) d false true (by simp [Hidden,hx]) w hP0
   have km1:=fun w=>must_c q [40] (t::u::r) d false (.ok () (u::r)) (by simp [Pz.must,hx]) w
   have km2:=fun w=>must_c q [41] (u::r) d false (.ok () r) (by simp [Pz.must,hy]) w
   obtain rfl:rs = .ok .nil r:=by
    have hs1:Pz.args E g d (t::u::r)=some rs:=hs
    simp only [Pz.args,hx,hy,and_self,if_true] at hs1
    exact (Option.some.inj hs1).symm
   have hyb:(u.x == [41])=true:=by simp [hy]
   clear hs hx hy
   go_enter Tryz.func242,Tryz.ntmps242
   go_wp2_with fail
   go_at_call 65
   refine ki.mono ?_
   rintro e W1 ⟨rfl,f1⟩
   obtain ⟨g',off,cap,c0,c1,c2,c3⟩:=(Ps.keepN hP0 f1).second
   go_wp2_with fail
   go_at_call 63
   refine (km1 _ (Ps.keepN hP0 f1)).mono ?_
   rintro e W2 ⟨v2,rfl,rfl,hp2,f2⟩
   have hp2H:Hidden (Ps W2 q (u::r) d false):=hp2
   clear hp2 c0 c3
   go_wp2_with fail
   go_at_call 63
   refine (km2 _ hp2H).mono ?_
   rintro e W3 ⟨v3,rfl,rfl,hp3,f3⟩
   go_wp2_with fail
   go_ret
   exact ⟨_,rfl,⟨none,0,rfl,Nw.nil _ _⟩,hp3,((frq f1).same f2).same f3⟩
  ·skip
   have hq:=h.lt
   have g0:=Fr.refl (fun k=>k=q) w
   have hP0:Hidden (Ps w q (t::u::r) d false):=h
   clear h
   have ki:=is_any q [40] t (u::r) d false true (by simp [Hidden,hx]) w hP0
   have hyb:(u.x == [41])=false:=by simpa using hy
   replace hs:Hidden (Pz.bd (Pz.opn [40] false d (t::u::r)) (fun _ ts=>Pz.bd (E false (d+1) ts) fun e ts=>Pz.bd (Pz.rwE E (d+1) g (.cons e.1 e.2 .nil) ts) fun l ts=>Pz.bd (Pz.must [41] false ts) fun _ ts=>some (.ok l ts))=some rs):=by
    have hs1:Pz.args E g d (t::u::r)=some rs:=hs
    rw [Pz.args,if_neg (fun h=>hy h.2)] at hs1
    exact hs1
   clear hx hy
   go_enter Tryz.func242,Tryz.ntmps242
   go_wp2_with fail
   go_at_call 65
   refine ki.mono ?_
   rintro e W0 ⟨rfl,f0⟩
   obtain ⟨g',off,cap,c0,c1,c2,c3⟩:=(Ps.keepN hP0 f0).second
   have g00:Fr (fun k=>k=q) w W0:=frq f0
   have hP00:Hidden (Ps W0 q (t::u::r) d false):=Ps.keepN hP0 f0
   go_wp2_with fail
   go_at_call 196
   obtain ⟨r1,e1,hs⟩:=Pz.bd_some hs
   refine (opn_c q [40] ((t::u::r)) d hd false r1 e1 _ hP00).mono ?_
   rcases r1 with ⟨u1,ts1⟩ | ⟨p,c⟩
   rotate_left
   ·obtain rfl:rs = .er p c:=hs
    rintro e W1 ⟨rfl,f1⟩
    unfold gP
    go_wp2_with fail
    exact ⟨rfl,rfl,g00.same f1⟩
   rintro e W1 ⟨v1,rfl,rfl,hQ1,f1⟩
   have g1:=g00.same f1
   have s1:=f1.size
   have t1:=g1.size
   have hP1:Hidden (Ps W1 q ts1 (d+1) false):=hQ1
   clear hQ1
   have hd1:=Pz.opn_lt hd e1
   clear e1
   replace hs:Hidden (Pz.bd (Pz.bd (E false (d+1) ts1) (fun e ts=>Pz.rwE E (d+1) g (.cons e.1 e.2 .nil) ts)) (fun l ts=>Pz.bd (Pz.must [41] false ts) fun _ ts=>some (.ok l ts))=some rs):=(Pz.bd_assoc _ _ _).symm.trans hs
   go_wp2_with fail
   go_at_call 251
   obtain ⟨r2,e2,hs⟩:=Pz.bd_some hs
   refine (rowE_c hE g hg q ts1 (d+1) hd1 false r2 e2 _ hP1).mono ?_
   clear e2
   rcases r2 with ⟨l,ts2⟩ | ⟨p,c⟩
   rotate_left
   ·obtain rfl:rs = .er p c:=hs
    rintro e W2 ⟨rfl,f2⟩
    unfold gP
    go_wp2_with fail
    exact ⟨rfl,rfl,g1.same f2⟩
   rintro e W2 ⟨v2,rfl,⟨ao,cap,rfl,hN⟩,hQ2,f2⟩
   have g2:=g1.same f2
   have s2:=f2.size
   have t2:=g2.size
   have hP2:Hidden (Ps W2 q ts2 (d+1) false):=hQ2
   clear hQ2
   go_wp2_with fail
   go_at_call 198
   obtain ⟨r3,e3,hs⟩:=Pz.bd_some hs
   refine (shut_c q [41] ts2 d hd r3 e3 _ hP2).mono ?_
   clear e3
   rcases r3 with ⟨u3,ts3⟩ | ⟨p,c⟩
   rotate_left
   ·obtain rfl:rs = .er p c:=hs
    rintro e W3 ⟨rfl,f3⟩
    unfold gP
    go_wp2_with fail
    exact ⟨rfl,rfl,g2.same f3⟩
   rintro e W3 ⟨v3,rfl,rfl,hQ3,f3⟩
   have g3:=g2.same f3
   have s3:=f3.size
   have t3:=g3.size
   have hP3:Hidden (Ps W3 q ts3 d false):=hQ3
   clear hQ3
   obtain rfl:rs = .ok l ts3:=(Option.some.inj (show some _=some rs from hs)).symm
   go_wp2_with fail
   go_ret
   exact ⟨_,rfl,⟨ao,cap,rfl,(hN.step f3 (fun k hk=>by subst hk;omega)).weak (by omega)⟩,hP3,g3⟩
 ·skip
  have hq:=h.lt
  have g0:=Fr.refl (fun k=>k=q) w
  have hP0:Hidden (Ps w q (t::r) d false):=h
  clear h
  have ki:=is_any q [40] t r d false false (by simpa [Hidden] using hx) w hP0
  replace hs:Hidden (Pz.bd (Pz.opn [40] false d (t::r)) (fun _ ts=>Pz.bd (E false (d+1) ts) fun e ts=>Pz.bd (Pz.rwE E (d+1) g (.cons e.1 e.2 .nil) ts) fun l ts=>Pz.bd (Pz.must [41] false ts) fun _ ts=>some (.ok l ts))=some rs):=by
   have hs1:Pz.args E g d (t::r)=some rs:=hs
   cases r with
   | nil =>
     simp only [Pz.args,if_neg hx] at hs1
     simp only [Hidden,Pz.opn,if_neg hx,Pz.bd_er]
     exact hs1
   | cons u r =>
     rw [Pz.args,if_neg (fun h=>hx h.1)] at hs1
     exact hs1
  clear hx
  go_enter Tryz.func242,Tryz.ntmps242
  go_wp2_with fail
  go_at_call 65
  refine ki.mono ?_
  rintro e W0 ⟨rfl,f0⟩
  have g00:Fr (fun k=>k=q) w W0:=frq f0
  have hP00:Hidden (Ps W0 q (t::r) d false):=Ps.keepN hP0 f0
  go_wp2_with fail
  go_at_call 196
  obtain ⟨r1,e1,hs⟩:=Pz.bd_some hs
  refine (opn_c q [40] ((t::r)) d hd false r1 e1 _ hP00).mono ?_
  rcases r1 with ⟨u1,ts1⟩ | ⟨p,c⟩
  rotate_left
  ·obtain rfl:rs = .er p c:=hs
   rintro e W1 ⟨rfl,f1⟩
   unfold gP
   go_wp2_with fail
   exact ⟨rfl,rfl,g00.same f1⟩
  rintro e W1 ⟨v1,rfl,rfl,hQ1,f1⟩
  have g1:=g00.same f1
  have s1:=f1.size
  have t1:=g1.size
  have hP1:Hidden (Ps W1 q ts1 (d+1) false):=hQ1
  clear hQ1
  have hd1:=Pz.opn_lt hd e1
  clear e1
  replace hs:Hidden (Pz.bd (Pz.bd (E false (d+1) ts1) (fun e ts=>Pz.rwE E (d+1) g (.cons e.1 e.2 .nil) ts)) (fun l ts=>Pz.bd (Pz.must [41] false ts) fun _ ts=>some (.ok l ts))=some rs):=(Pz.bd_assoc _ _ _).symm.trans hs
  go_wp2_with fail
  go_at_call 251
  obtain ⟨r2,e2,hs⟩:=Pz.bd_some hs
  refine (rowE_c hE g hg q ts1 (d+1) hd1 false r2 e2 _ hP1).mono ?_
  clear e2
  rcases r2 with ⟨l,ts2⟩ | ⟨p,c⟩
  rotate_left
  ·obtain rfl:rs = .er p c:=hs
   rintro e W2 ⟨rfl,f2⟩
   unfold gP
   go_wp2_with fail
   exact ⟨rfl,rfl,g1.same f2⟩
  rintro e W2 ⟨v2,rfl,⟨ao,cap,rfl,hN⟩,hQ2,f2⟩
  have g2:=g1.same f2
  have s2:=f2.size
  have t2:=g2.size
  have hP2:Hidden (Ps W2 q ts2 (d+1) false):=hQ2
  clear hQ2
  go_wp2_with fail
  go_at_call 198
  obtain ⟨r3,e3,hs⟩:=Pz.bd_some hs
  refine (shut_c q [41] ts2 d hd r3 e3 _ hP2).mono ?_
  clear e3
  rcases r3 with ⟨u3,ts3⟩ | ⟨p,c⟩
  rotate_left
  ·obtain rfl:rs = .er p c:=hs
   rintro e W3 ⟨rfl,f3⟩
   unfold gP
   go_wp2_with fail
   exact ⟨rfl,rfl,g2.same f3⟩
  rintro e W3 ⟨v3,rfl,rfl,hQ3,f3⟩
  have g3:=g2.same f3
  have s3:=f3.size
  have t3:=g3.size
  have hP3:Hidden (Ps W3 q ts3 d false):=hQ3
  clear hQ3
  obtain rfl:rs = .ok l ts3:=(Option.some.inj (show some _=some rs from hs)).symm
  go_wp2_with fail
  go_ret
  exact ⟨_,rfl,⟨ao,cap,rfl,(hN.step f3 (fun k hk=>by subst hk;omega)).weak (by omega)⟩,hP3,g3⟩
theorem call_c (g:Nat) (hg:g≤3000) (q:Nat) (x:Pz.Ex) (ao:Option Addr) (n cap:Nat) (ts:List Tok) (d:Nat) (hd:d≤32) (rs:Pz.Rs Pz.Ex) (hs:Hidden (Pz.call E g d x ts=some rs)) (w:World) (h:Ps w q ts d false) :
 Calls Tryz.prog 224 #[pp q,.agg #[ci x.1.kind,ci x.1.op,ct x.1.mod,ct x.1.name,ci x.1.vt,.int .u64 x.1.vb,.slice ao n cap]] w (Out TE q d w rs):=by
 obtain ⟨⟨kind,op,mod,name,vt,vb⟩,ks⟩:=x
 simp only []
 have hq:=h.lt
 by_cases hk:kind=3
 ·have hkb:(kind == 3)=true:=by simpa using hk
  have hcH:Pz.Rs (Pz.Ex)=Pz.Rs Pz.Ex:=rfl
  have hkc:Hidden (Pz.callH ⟨kind,op,mod,name,vt,vb⟩=⟨5,op,mod,name,vt,vb⟩):=by simp [Hidden,Pz.callH,hk]
  have fa:=Fr.alloc (fun _=>False) w (.cells #[ci 5,ci op,ct mod,ct name,ci vt,.int .u64 vb,.slice ao n cap] 59)
  have fb:=Fr.alloc (fun _=>False) (w.alloc (.cells #[ci 5,ci op,ct mod,ct name,ci vt,.int .u64 vb,.slice ao n cap] 59)) ex0
  have hP0:Hidden (Ps ((w.alloc (.cells #[ci 5,ci op,ct mod,ct name,ci vt,.int .u64 vb,.slice ao n cap] 59)).alloc ex0) q ts d false):=(h.keepN fa).keepN fb
  have hn0:Hidden (((w.alloc (.cells #[ci 5,ci op,ct mod,ct name,ci vt,.int .u64 vb,.slice ao n cap] 59)).alloc ex0).heap[w.heap.size]?=some (.cells #[ci 5,ci op,ct mod,ct name,ci vt,.int .u64 vb,.slice ao n cap] 59 (0,0))):=heap_alloc2_old _ _ _
  have hn1:Hidden (((w.alloc (.cells #[ci 5,ci op,ct mod,ct name,ci vt,.int .u64 vb,.slice ao n cap] 59)).alloc ex0).heap[w.heap.size+1]?=some ex0):=heap_alloc2_new _ _ _
  clear h hcH hk
  go_enter Tryz.func224,Tryz.ntmps224
  go_wp2_with fail
  go_at_call 242
  obtain ⟨r1,e1,hs⟩:=Pz.bd_some hs
  refine (args_c hE g hg q ts d hd r1 e1 _ hP0).mono ?_
  clear e1
  rcases r1 with ⟨l,ts1⟩ | ⟨p,c⟩
  rotate_left
  ·obtain rfl:rs = .er p c:=hs
   rintro e W1 ⟨rfl,f1⟩
   unfold gP
   go_wp2_with fail
   exact ⟨rfl,rfl,((frq fa).same (frq fb)).same f1⟩
  rintro e W1 ⟨v1,rfl,⟨ao1,cap1,rfl,hN⟩,hQ1,f1⟩
  have g1:=((frq (q:=q) fa).same (frq fb)).same f1
  have s1:=f1.size
  simp only [World.size_alloc] at s1 hN
  have hm0:Hidden (W1.heap[w.heap.size]?=some (.cells #[ci 5,ci op,ct mod,ct name,ci vt,.int .u64 vb,.slice ao n cap] 59 (0,0))):=f1.heap hn0 (by omega)
  have hm1:Hidden (W1.heap[w.heap.size+1]?=some ex0):=f1.heap hn1 (by omega)
  have hQH:Hidden (Ps W1 q ts1 d false):=hQ1
  obtain rfl:rs = .ok (⟨5,op,mod,name,vt,vb⟩,l) ts1:=by
   have h1:some (Pz.Rs.ok (Pz.callH ⟨kind,op,mod,name,vt,vb⟩,l) ts1)=some rs:=hs
   rw [show Pz.callH _=_ from hkc] at h1
   exact (Option.some.inj h1).symm
  clear hQ1
  obtain ⟨ac0,ac1,ac2,ac3,ac4,ac5,ac6,az0,az1,az2,az3,az4,az5,az6⟩:=box7 hm0
  obtain ⟨bc0,bc1,bc2,bc3,bc4,bc5,bc6,bz0,bz1,bz2,bz3,bz4,bz5,bz6⟩:=box7 hm1
  go_upto_region 5 with fail
  have fp:=Fr.put W1 w.heap.size 6 (.slice ao1 l.len cap1)
  have hp0:(W1.setCell ⟨w.heap.size,6,none⟩ (.slice ao1 l.len cap1)).heap[w.heap.size]?=some (.cells #[ci 5,ci op,ct mod,ct name,ci vt,.int .u64 vb,.slice ao1 l.len cap1] 59 (0,0)):=heap_setCell_same _ _ 6 _ _ _ hm0
  have hp1:(W1.setCell ⟨w.heap.size,6,none⟩ (.slice ao1 l.len cap1)).heap[w.heap.size+1]?=some ex0:=fp.heap hm1 (by omega)
  have hN2:=hN.step fp (fun k hk=>by subst hk;omega)
  have g2:Fr (fun k=>k=q) w (W1.setCell ⟨w.heap.size,6,none⟩ (.slice ao1 l.len cap1)):=g1.over fp (fun k hk=>by subst hk;omega)
  have hQ2:Hidden (Ps (W1.setCell ⟨w.heap.size,6,none⟩ (.slice ao1 l.len cap1)) q ts1 d false):=Ps.high hQH fp (fun k hk=>by subst hk;omega)
  generalize W1.setCell ⟨w.heap.size,6,none⟩ (.slice ao1 l.len cap1)=W2 at fp hp0 hp1 hN2 g2 hQ2 ⊢
  have hp1H:Hidden (W2.heap[w.heap.size+1]?=some ex0):=hp1
  clear ac0 ac1 ac2 ac3 ac4 ac5 ac6 az0 az1 az2 az3 az4 az5 az6 bc0 bc1 bc2 bc3 bc4 bc5 bc6 bz0 bz1 bz2 bz3 bz4 bz5 bz6
  obtain ⟨ac0,ac1,ac2,ac3,ac4,ac5,ac6,az0,az1,az2,az3,az4,az5,az6⟩:=box7 hp0
  obtain ⟨bc0,bc1,bc2,bc3,bc4,bc5,bc6,bz0,bz1,bz2,bz3,bz4,bz5,bz6⟩:=box7 hp1
  clear hp0 hp1
  go_wp2_with fail
  have fs:=set7_fr W2 (w.heap.size+1) (ci 5) (ci op) (ct mod) (ct name) (ci vt) (.int .u64 vb) (.slice ao1 l.len cap1)
  exact post_ex hp1H rfl rfl rfl ⟨_,rfl,⟨ao1,cap1,rfl,(hN2.step fs (fun k hk=>by subst hk;omega)).weak (by omega)⟩,Ps.high hQ2 fs (fun k hk=>by subst hk;omega),g2.over fs (fun k hk=>by subst hk;omega)⟩
 ·have hkb:(kind == 3)=false:=by simpa using hk
  have hcH:Pz.Rs (Pz.Ex)=Pz.Rs Pz.Ex:=rfl
  have hkc:Hidden (Pz.callH ⟨kind,op,mod,name,vt,vb⟩=⟨4,op,mod,name,vt,vb⟩):=by simp [Hidden,Pz.callH,hk]
  have fa:=Fr.alloc (fun _=>False) w (.cells #[ci 4,ci op,ct mod,ct name,ci vt,.int .u64 vb,.slice ao n cap] 59)
  have fb:=Fr.alloc (fun _=>False) (w.alloc (.cells #[ci 4,ci op,ct mod,ct name,ci vt,.int .u64 vb,.slice ao n cap] 59)) ex0
  have hP0:Hidden (Ps ((w.alloc (.cells #[ci 4,ci op,ct mod,ct name,ci vt,.int .u64 vb,.slice ao n cap] 59)).alloc ex0) q ts d false):=(h.keepN fa).keepN fb
  have hn0:Hidden (((w.alloc (.cells #[ci 4,ci op,ct mod,ct name,ci vt,.int .u64 vb,.slice ao n cap] 59)).alloc ex0).heap[w.heap.size]?=some (.cells #[ci 4,ci op,ct mod,ct name,ci vt,.int .u64 vb,.slice ao n cap] 59 (0,0))):=heap_alloc2_old _ _ _
  have hn1:Hidden (((w.alloc (.cells #[ci 4,ci op,ct mod,ct name,ci vt,.int .u64 vb,.slice ao n cap] 59)).alloc ex0).heap[w.heap.size+1]?=some ex0):=heap_alloc2_new _ _ _
  clear h hcH hk
  go_enter Tryz.func224,Tryz.ntmps224
  go_wp2_with fail
  go_at_call 242
  obtain ⟨r1,e1,hs⟩:=Pz.bd_some hs
  refine (args_c hE g hg q ts d hd r1 e1 _ hP0).mono ?_
  clear e1
  rcases r1 with ⟨l,ts1⟩ | ⟨p,c⟩
  rotate_left
  ·obtain rfl:rs = .er p c:=hs
   rintro e W1 ⟨rfl,f1⟩
   unfold gP
   go_wp2_with fail
   exact ⟨rfl,rfl,((frq fa).same (frq fb)).same f1⟩
  rintro e W1 ⟨v1,rfl,⟨ao1,cap1,rfl,hN⟩,hQ1,f1⟩
  have g1:=((frq (q:=q) fa).same (frq fb)).same f1
  have s1:=f1.size
  simp only [World.size_alloc] at s1 hN
  have hm0:Hidden (W1.heap[w.heap.size]?=some (.cells #[ci 4,ci op,ct mod,ct name,ci vt,.int .u64 vb,.slice ao n cap] 59 (0,0))):=f1.heap hn0 (by omega)
  have hm1:Hidden (W1.heap[w.heap.size+1]?=some ex0):=f1.heap hn1 (by omega)
  have hQH:Hidden (Ps W1 q ts1 d false):=hQ1
  obtain rfl:rs = .ok (⟨4,op,mod,name,vt,vb⟩,l) ts1:=by
   have h1:some (Pz.Rs.ok (Pz.callH ⟨kind,op,mod,name,vt,vb⟩,l) ts1)=some rs:=hs
   rw [show Pz.callH _=_ from hkc] at h1
   exact (Option.some.inj h1).symm
  clear hQ1
  obtain ⟨ac0,ac1,ac2,ac3,ac4,ac5,ac6,az0,az1,az2,az3,az4,az5,az6⟩:=box7 hm0
  obtain ⟨bc0,bc1,bc2,bc3,bc4,bc5,bc6,bz0,bz1,bz2,bz3,bz4,bz5,bz6⟩:=box7 hm1
  go_upto_region 5 with fail
  have fp:=Fr.put W1 w.heap.size 6 (.slice ao1 l.len cap1)
  have hp0:(W1.setCell ⟨w.heap.size,6,none⟩ (.slice ao1 l.len cap1)).heap[w.heap.size]?=some (.cells #[ci 4,ci op,ct mod,ct name,ci vt,.int .u64 vb,.slice ao1 l.len cap1] 59 (0,0)):=heap_setCell_same _ _ 6 _ _ _ hm0
  have hp1:(W1.setCell ⟨w.heap.size,6,none⟩ (.slice ao1 l.len cap1)).heap[w.heap.size+1]?=some ex0:=fp.heap hm1 (by omega)
  have hN2:=hN.step fp (fun k hk=>by subst hk;omega)
  have g2:Fr (fun k=>k=q) w (W1.setCell ⟨w.heap.size,6,none⟩ (.slice ao1 l.len cap1)):=g1.over fp (fun k hk=>by subst hk;omega)
  have hQ2:Hidden (Ps (W1.setCell ⟨w.heap.size,6,none⟩ (.slice ao1 l.len cap1)) q ts1 d false):=Ps.high hQH fp (fun k hk=>by subst hk;omega)
  generalize W1.setCell ⟨w.heap.size,6,none⟩ (.slice ao1 l.len cap1)=W2 at fp hp0 hp1 hN2 g2 hQ2 ⊢
  have hp1H:Hidden (W2.heap[w.heap.size+1]?=some ex0):=hp1
  clear ac0 ac1 ac2 ac3 ac4 ac5 ac6 az0 az1 az2 az3 az4 az5 az6 bc0 bc1 bc2 bc3 bc4 bc5 bc6 bz0 bz1 bz2 bz3 bz4 bz5 bz6
  obtain ⟨ac0,ac1,ac2,ac3,ac4,ac5,ac6,az0,az1,az2,az3,az4,az5,az6⟩:=box7 hp0
  obtain ⟨bc0,bc1,bc2,bc3,bc4,bc5,bc6,bz0,bz1,bz2,bz3,bz4,bz5,bz6⟩:=box7 hp1
  clear hp0 hp1
  go_wp2_with fail
  have fs:=set7_fr W2 (w.heap.size+1) (ci 4) (ci op) (ct mod) (ct name) (ci vt) (.int .u64 vb) (.slice ao1 l.len cap1)
  exact post_ex hp1H rfl rfl rfl ⟨_,rfl,⟨ao1,cap1,rfl,(hN2.step fs (fun k hk=>by subst hk;omega)).weak (by omega)⟩,Ps.high hQ2 fs (fun k hk=>by subst hk;omega),g2.over fs (fun k hk=>by subst hk;omega)⟩
end
end Go.Proofs.YteijjaabngkbjaaGreatDoor
