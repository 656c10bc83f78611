/- PwO PsG PsH PsI PsO PsP PsQ PsE2 -/
import Derived.Test.YteijjaabngkbjaaGreatDoorPwN
import Derived.Test.YteijjaabngkbjaaGreatDoorPwAB
import Derived.Test.YteijjaabngkbjaaGreatDoorPsKB
import Derived.Test.YteijjaabngkbjaaGreatDoorLxAll
set_option maxRecDepth 100000
set_option maxHeartbeats 40000000
set_option linter.unusedVariables false
set_option linter.unusedSimpArgs false
set_option linter.unusedSectionVars false
namespace Go.Proofs.YteijjaabngkbjaaGreatDoor
section
open Go.RowKit Lx Te
def Pz.parS (l:By):Option (Option Mo × Nat × Int):=if (lexS wordsL valS l).2.2=0 then Pz.parT (lexS wordsL valS l).1 l.length else some (none,(lexS wordsL valS l).2.1,(lexS wordsL valS l).2.2)
def Pz.xprS (l:By):Option (Option Pz.Ex × Nat × Int):=if (lexS wordsL valS l).2.2=0 then Pz.xprT (lexS wordsL valS l).1 l.length else some (none,(lexS wordsL valS l).2.1,(lexS wordsL valS l).2.2)
def Pz.mo (r:Option Mo):Mo:=r.getD ⟨[],[],[]⟩
def Pz.ex (r:Option Pz.Ex):Pz.Ex:=r.getD (⟨0,0,[],[],0,0⟩,.nil)
theorem Pz.lex_parts (l:By):((lexS wordsL valS l).2.2=0∧lexS wordsL valS l=((lexS wordsL valS l).1,0,0)∧(lexS wordsL valS l).1.length≤1024∧l.length≤4096)∨((lexS wordsL valS l).2.2≠0∧lexS wordsL valS l=([],(lexS wordsL valS l).2.1,(lexS wordsL valS l).2.2)):=by
 rcases toks_of_lexS wordsL valS l _ _ _ (show lexS wordsL valS l=((lexS wordsL valS l).1,(lexS wordsL valS l).2.1,(lexS wordsL valS l).2.2) from rfl) with ⟨h1,h2,h3,h4,_⟩ | ⟨h1,h2,_⟩
 ·exact Or.inl ⟨h1,Prod.ext rfl (Prod.ext h2 h1),h3,h4⟩
 ·exact Or.inr ⟨h1,Prod.ext h2 rfl⟩
theorem results_ctt {fn:Func} {p0 p1 p2:Tmp} {t0:TypeId} (h:fn.results=#[.cell p0 t0,.tmp p1,.tmp p2]) (tmps:Array Value) (w:World) (a0:Addr) (v0:Value)
 (h0:tmps.getD p0 undef = .pointer (some a0)) (l0:(loadVar t0 a0).run Tryz.prog w = .ok v0 w):(results fn tmps).run Tryz.prog w = .ok (.tuple #[v0,tmps.getD p1 undef,tmps.getD p2 undef]) w:=by
 have h0':tmps[p0]?.getD undef = .pointer (some a0):=by simpa using h0
 simp [results,h,h0',asAddr,l0,Sem.run_bind,Result.andThen]
theorem readM_any (l:By) (r:Option Mo) (p:Nat) (c:Int) (hl:l.length≤9223372036854775807) (h:Pz.parS l=some (r,p,c)) (w:World) (ht:F.Tab w) :
 Calls Tryz.prog 32 #[ct l,.func (.func 33) #[] #[]] w fun e w'=>∃v,e = .returned (.tuple #[v,ci (p:Int),ci c])∧Nw w.heap.size w' (fun w'=>MoI w' (Pz.mo r) v)∧Fr (fun _=>False) w w':=by
 unfold Pz.parS at h
 rcases Pz.lex_parts l with ⟨h1,h2,h3,_⟩ | ⟨h1,h2⟩
 ·rw [if_pos h1] at h
  exact readM_toks l _ ((lexS wordsL valS l).1.length+2) (by omega) h3 p c r hl h2 h w ht
 ·rw [if_neg h1] at h
  have e:=Option.some.inj h
  cases e
  exact (readM_lex l _ _ h1 hl h2 w ht).mono fun e w' ⟨h3,h4⟩=>⟨_,h3,fun _ _=>⟨none,0,none,0,rfl,⟨Nat.le_refl _,by decide,Or.inl rfl⟩,⟨Nat.le_refl _,by decide,Or.inl rfl⟩⟩,h4⟩
theorem readX_any (l:By) (r:Option Pz.Ex) (p:Nat) (c:Int) (hl:l.length≤9223372036854775807) (h:Pz.xprS l=some (r,p,c)) (w:World) (ht:F.Tab w) :
 Calls Tryz.prog 58 #[ct l,.func (.func 59) #[] #[]] w fun e w'=>∃v,e = .returned (.tuple #[v,ci (p:Int),ci c])∧Nw w.heap.size w' (fun w'=>ExI w' (Pz.ex r).1 (Pz.ex r).2 v)∧Fr (fun _=>False) w w':=by
 unfold Pz.xprS at h
 rcases Pz.lex_parts l with ⟨h1,h2,h3,_⟩ | ⟨h1,h2⟩
 ·rw [if_pos h1] at h
  exact readX_toks l _ ((lexS wordsL valS l).1.length+2) (by omega) h3 p c r hl h2 h w ht
 ·rw [if_neg h1] at h
  have e:=Option.some.inj h
  cases e
  exact (readX_lex l _ _ h1 hl h2 w ht).mono fun e w' ⟨h3,h4⟩=>⟨_,h3,fun _ _=>⟨none,0,rfl,Nat.le_refl _,by decide,Or.inl rfl⟩,h4⟩
theorem par_any (l:By) (r:Option Mo) (p:Nat) (c:Int) (hl:l.length≤9223372036854775807) (h:Hidden (Pz.parS l=some (r,p,c))) (w:World) (ht:F.Tab w) :
 Calls Tryz.prog 14 #[ct l] w fun e w'=>∃ao cap ao' cap',e = .returned (.tuple #[.agg #[ct (Pz.mo r).name,.slice ao (Pz.mo r).imports.length cap,.slice ao' (Pz.mo r).decls.length cap'],ci (p:Int),ci c])∧SvL w' ao cap (Pz.mo r).imports∧DeL w' ao' cap' (Pz.mo r).decls∧Fr (fun _=>False) w w':=by
 have f0:=Fr.alloc (fun _=>False) w mo0
 have k:=readM_any l r p c hl h _ (tab_fr ht f0)
 have hb0:Hidden ((w.alloc mo0).heap[w.heap.size]?=some mo0):=alloc_new _ _
 clear h
 go_enter Tryz.func14,Tryz.ntmps14
 go_wp2_with fail
 go_at_call 32
 refine k.mono ?_
 rintro e W1 ⟨v,rfl,hN,f1⟩
 obtain ⟨ao,cap,ao',cap',rfl,_,_⟩:=hN.now
 have hb1:Hidden (W1.heap[w.heap.size]?=some mo0):=f1.heap hb0 (fun f=>f)
 obtain ⟨a0,a1,a2,z0,z1,z2⟩:=box3 hb1
 simp only [World.size_alloc] at hN
 go_wp2_with fail
 have fs:=set3_fr W1 w.heap.size (ct (Pz.mo r).name) (.slice ao (Pz.mo r).imports.length cap) (.slice ao' (Pz.mo r).decls.length cap')
 obtain ⟨x1,x2,x3,x4,e5,h1,h2⟩:=(hN.step fs (fun k hk=>by subst hk;omega)).now
 cases e5
 exact post_one (results_ctt rfl _ _ _ _ rfl (run_loadVar_row _ _ _ _ _ _ _ (set_three hb1 _ _ _) Tryz.underlying25 rfl info_mo)) rfl ⟨_,_,_,_,rfl,h1,h2,(f0.same f1).over fs (fun k hk=>by subst hk;exact Nat.le_refl _)⟩
theorem xpr_any (l:By) (r:Option Pz.Ex) (p:Nat) (c:Int) (hl:l.length≤9223372036854775807) (h:Hidden (Pz.xprS l=some (r,p,c))) (w:World) (ht:F.Tab w) :
 Calls Tryz.prog 31 #[ct l] w fun e w'=>∃ao cap,e = .returned (.tuple #[.agg #[ci (Pz.ex r).1.kind,ci (Pz.ex r).1.op,ct (Pz.ex r).1.mod,ct (Pz.ex r).1.name,ci (Pz.ex r).1.vt,.int .u64 (Pz.ex r).1.vb,.slice ao (Pz.ex r).2.len cap],ci (p:Int),ci c])∧ExL w' ao cap (Pz.ex r).2∧Fr (fun _=>False) w w':=by
 have f0:=Fr.alloc (fun _=>False) w ex0
 have k:=readX_any l r p c hl h _ (tab_fr ht f0)
 have hb0:Hidden ((w.alloc ex0).heap[w.heap.size]?=some ex0):=alloc_new _ _
 clear h
 go_enter Tryz.func31,Tryz.ntmps31
 go_wp2_with fail
 go_at_call 58
 refine k.mono ?_
 rintro e W1 ⟨v,rfl,hN,f1⟩
 obtain ⟨ao,cap,rfl,_⟩:=hN.now
 have hb1:Hidden (W1.heap[w.heap.size]?=some ex0):=f1.heap hb0 (fun f=>f)
 obtain ⟨a0,a1,a2,a3,a4,a5,a6,z0,z1,z2,z3,z4,z5,z6⟩:=box7 hb1
 simp only [World.size_alloc] at hN
 go_wp2_with fail
 have fs:=set7_fr W1 w.heap.size (ci (Pz.ex r).1.kind) (ci (Pz.ex r).1.op) (ct (Pz.ex r).1.mod) (ct (Pz.ex r).1.name) (ci (Pz.ex r).1.vt) (.int .u64 (Pz.ex r).1.vb) (.slice ao (Pz.ex r).2.len cap)
 obtain ⟨x1,x2,e5,h1⟩:=(hN.step fs (fun k hk=>by subst hk;omega)).now
 cases e5
 exact post_one (results_ctt rfl _ _ _ _ rfl (run_loadVar_row _ _ _ _ _ _ _ (set_seven hb1 _ _ _ _ _ _ _) Tryz.underlying59 rfl info_ex)) rfl ⟨_,_,rfl,h1,(f0.same f1).over fs (fun k hk=>by subst hk;exact Nat.le_refl _)⟩
def liveA:By:=[49,32,43,32,50,32,42,32,120]
def liveB:By:=[97,32,60,32,98,32,60,32,99]
def liveC:By:=[109,111,100,117,108,101,32,109,59,32,102,110,32,102,40,97,58,32,105,110,116,41,58,32,98,111,111,108,32,123,32,114,101,116,117,114,110,32,97,32,62,32,48,59,32,125]
theorem liveA_is:Pz.xprS liveA=some (some (Pz.bin 1 (Pz.lit 1 1) (Pz.bin 3 (Pz.lit 1 2) (⟨2,0,[],[120],0,0⟩,.nil))),0,0):=by decide +kernel
theorem liveB_is:Pz.xprS liveB=some (none,6,11):=by decide +kernel
theorem liveC_is:Pz.parS liveC=some (some ⟨[109],[],[⟨3,false,[102],3,[⟨[97],1⟩],.nil,.cons ⟨5,[]⟩ (.cons ⟨7,10,[],[],0,0⟩ (.cons ⟨2,0,[],[97],0,0⟩ .nil (.cons ⟨1,0,[],[],1,0⟩ .nil .nil)) .nil) .nil .nil .nil⟩]⟩,0,0):=by decide +kernel
end
section
namespace Pz
open Lx Te
abbrev Co:=Nat × By × Int × Int
section
variable {words:List By} {V:Nat→By→Int × Int × Int}
def Rd (words:List By) (V:Nat→By→Int × Int × Int) (u:By) (T:List Co):Prop:=∀q,∃ts,Toks words V q (u.drop (gap u)) ts∧ts.map Tok.core=T
theorem Rd.nil:Rd words V [] []:=fun q=>⟨[],by simpa using Toks.done q,rfl⟩
theorem Rd.blank {c:UInt8} {u:By} {T:List Co} (hc:blB c=true) (h:Rd words V u T):Rd words V (c::u) T:=by
 intro q
 obtain ⟨ts,h1,h2⟩:=h q
 refine ⟨ts,?_,h2⟩
 rw [gap,gapM_false,if_pos hc,Nat.add_comm,List.drop_succ_cons]
 exact h1
theorem Rd.step {x r:By} {k:Nat} {ty b:Int} {T:List Co} (h0:x≠[]) (hg:gap (x++r)=0) (hk:kindLen words (x++r)=(k,x.length)) (hv:V k x=(ty,b,0)) (h:Rd words V r T):Rd words V (x++r) ((k,x,ty,b)::T):=by
 intro q
 obtain ⟨ts,h1,h2⟩:=h (q+x.length+gap r)
 refine ⟨⟨k,x,ty,b,q⟩::ts,?_,by simp [h2,Tok.core]⟩
 rw [hg,List.drop_zero]
 exact .more q x r k ty b ts hk h0 hg hv h1
theorem gap0 {c:UInt8} {r:By} (h1:blB c=false) (h2:c≠47):gap (c::r)=0:=by
 rw [gap,gapM_false,if_neg (by simp [h1]),if_neg (fun h=>h2 h.1)]
theorem ltr_f {c:UInt8} (h:ltr c=true):blB c=false∧c≠47∧dgt c=false∧c≠61:=by
 refine ⟨?_,?_,?_,?_⟩
 ·cases hb:blB c with
  | false=>rfl
  | true=>have:=(blank_no hb).1;simp [nmB,h] at this
 ·rintro rfl;revert h;decide
 ·simp only [ltr,dgt,Bool.or_eq_true,Bool.and_eq_true,decide_eq_true_eq,Bool.and_eq_false_iff,decide_eq_false_iff_not] at *;omega
 ·rintro rfl;revert h;decide
theorem dgt_f {c:UInt8} (h:dgt c=true):blB c=false∧c≠47∧c≠61:=by
 refine ⟨?_,?_,?_⟩
 ·cases hb:blB c with
  | false=>rfl
  | true=>have:=(blank_no hb).2.2.1;simp [h] at this
 ·rintro rfl;revert h;decide
 ·rintro rfl;revert h;decide
def StN (r:By):Prop:=∀c,r[0]?=some c→nmB c=false
def enB (c:UInt8):Bool:=c == 32 || c == 41 || c == 44 || c == 59
def End (r:By):Prop:=∀c,r[0]?=some c→enB c=true
theorem enB_c {c:UInt8} (h:enB c=true):c=32∨c=41∨c=44∨c=59:=by
 simpa [enB,or_assoc] using h
theorem End.st {r:By} (h:End r):StN r:=fun c hc=>by
 rcases enB_c (h c hc) with rfl | rfl | rfl | rfl<;>decide
theorem End.no {r:By} (h:End r):r[0]?≠some 61:=fun hc=>by
 have:=h _ hc;revert this;decide
theorem End.nil:End []:=fun c h=>by simp at h
theorem End.cons {c:UInt8} {r:By} (h:enB c=true):End (c::r):=fun d hd=>by
 simp at hd;subst hd;exact h
theorem StN.cons {c:UInt8} {r:By} (h:nmB c=false):StN (c::r):=fun d hd=>by
 simp at hd;subst hd;exact h
theorem Rd.word {x r:By} {T:List Co} {ty b:Int} (hx:∃c r',x=c::r'∧ltr c=true) (ha:∀c∈x,nmB c=true) (hr:StN r) (k:Nat) (hk:k=if x∈words then 2 else 1) (hv:V k x=(ty,b,0)) (h:Rd words V r T):Rd words V (x++r) ((k,x,ty,b)::T):=by
 obtain ⟨c,r',rfl,hc⟩:=hx
 obtain ⟨f1,f2,f3,_⟩:=ltr_f hc
 have hrun:=run_stop nmB (c::r') r ha hr
 refine Rd.step (by simp) (by rw [List.cons_append];exact gap0 f1 f2) ?_ hv h
 rw [List.cons_append] at hrun ⊢
 rw [kind_cons,if_neg (by simp [f3]),if_pos hc,hrun,hk]
 congr 2
 rw [←List.cons_append,List.take_left]
theorem Rd.mark {a:UInt8} {r:By} {T:List Co} (h1:Lx.one a=true) (h2:∀b,r[0]?=some b→Lx.two a b=false) (h3:gap (a::r)=0) (hv:V 5 [a]=(0,0,0)) (h:Rd words V r T):Rd words V (a::r) ((5,[a],0,0)::T):=by
 have e:kindLen words (a::r)=(5,1):=by
  have hd:dgt a=false∧ltr a=false:=by
   simp only [Lx.one,Bool.or_eq_true,beq_iff_eq] at h1
   rcases h1 with (((((((((((((((h | h) | h) | h) | h) | h) | h) | h) | h) | h) | h) | h) | h) | h) | h) | h) | h<;>(subst h;decide)
  rw [kind_cons,if_neg (by simp [hd.1]),if_neg (by simp [hd.2])]
  cases r with
  | nil=>simp [mkLen,h1]
  | cons b r=>rw [mkLen,if_neg (by simp [h2 b (by simp)]),if_pos h1]
 exact Rd.step (x:=[a]) (r:=r) (by simp) h3 e hv h
theorem Rd.mark2 {a b:UInt8} {r:By} {T:List Co} (h1:Lx.two a b=true) (hv:V 5 [a,b]=(0,0,0)) (h:Rd words V r T):Rd words V (a::b::r) ((5,[a,b],0,0)::T):=by
 have ha:a=60∨a=62∨a=61∨a=33∨a=38∨a=124:=by
  simp only [Lx.two,Bool.or_eq_true,Bool.and_eq_true,beq_iff_eq] at h1
  rcases h1 with (⟨_,((h | h) | h) | h⟩ | ⟨h,_⟩) | ⟨h,_⟩<;>simp [h]
 have hd:dgt a=false∧ltr a=false∧blB a=false∧a≠47:=by
  rcases ha with rfl | rfl | rfl | rfl | rfl | rfl<;>decide
 have e:kindLen words (a::b::r)=(5,2):=by
  rw [kind_cons,if_neg (by simp [hd.1]),if_neg (by simp [hd.2.1]),mkLen,if_pos h1]
 exact Rd.step (x:=[a,b]) (r:=r) (by simp) (gap0 hd.2.2.1 hd.2.2.2) e hv h
theorem Rd.digits {x r:By} {T:List Co} {ty b:Int} (hx:x≠[]) (ha:∀c∈x,dgt c=true) (hr:End r) (hv:V 3 x=(ty,b,0)) (h:Rd words V r T):Rd words V (x++r) ((3,x,ty,b)::T):=by
 cases x with
 | nil=>exact absurd rfl hx
 | cons c r' =>
   obtain ⟨f1,f2,_⟩:=dgt_f (ha c (by simp))
   have hne:∀d,r[0]?=some d→dgt d=false∧d≠120∧d≠46:=fun d hd=>by
    rcases enB_c (hr d hd) with rfl | rfl | rfl | rfl<;>decide
   have hrun:=run_stop dgt (c::r') r ha (fun d hd=>(hne d hd).1)
   refine Rd.step (by simp) (by rw [List.cons_append];exact gap0 f1 f2) ?_ hv h
   rw [List.cons_append,kind_cons,if_pos (ha c (by simp)),←List.cons_append,numLen,hrun]
   rw [if_neg,if_neg]
   ·rintro ⟨hc,_⟩
    rw [List.getElem?_append_right (Nat.le_refl _),Nat.sub_self] at hc
    exact (hne _ hc).2.2 rfl
   ·intro e
    cases r' with
    | nil =>
      simp only [List.cons_append,List.nil_append,List.take_succ_cons,List.cons.injEq] at e
      cases r with
      | nil=>simp at e
      | cons d r=>simp at e;exact (hne d (by simp)).2.1 e.2
    | cons d r' =>
      simp only [List.cons_append,List.take_succ_cons,List.take_zero,List.cons.injEq] at e
      have:=ha d (by simp)
      rw [e.2.1] at this
      revert this;decide
theorem Rd.hex {z r:By} {T:List Co} {ty b:Int} (ha:∀c∈z,hxB c=true) (hr:End r) (hv:V 4 (48::120::z)=(ty,b,0)) (h:Rd words V r T):Rd words V ((48::120::z)++r) ((4,48::120::z,ty,b)::T):=by
 have hne:∀d,r[0]?=some d→hxB d=false:=fun d hd=>by
  rcases enB_c (hr d hd) with rfl | rfl | rfl | rfl<;>decide
 have hrun:=run_stop hxB z r ha hne
 refine Rd.step (by simp) (gap0 (by decide) (by decide)) ?_ hv h
 rw [List.cons_append,kind_cons,if_pos (by decide),numLen,if_pos (by simp)]
 simp only [List.cons_append,List.drop_succ_cons,List.drop_zero,hrun,List.length_cons]
 rw [Nat.add_comm]
end
end Pz
end
section
namespace Pz
open Lx Te
structure LawT (rn:Bs→Int) (cn:Int→Int) (tx:Int→Int→Bs) (words:List By) (V:Nat→By→Int × Int × Int):Prop where
 nm:∀x,rn x=0→(∃c r,x=c::r∧ltr c=true)∧(∀c∈x,nmB c=true)∧x ∉ words∧V 1 x=(0,0,0)
 wd:∀x,V 2 x=(0,0,0)
 mrk:∀x,V 5 x=(0,0,0)
 int:∀vb,0≤vb→vb<9223372036854775808→tx 1 vb≠[]∧(∀c∈tx 1 vb,dgt c=true)∧V 3 (tx 1 vb)=(1,vb,0)
 flo:∀vb,0≤vb→litOk cn 2 vb=true→vb≠9218868437227405312→vb≠9221120237041090561→∃z,tx 2 vb=48::120::z∧(∀c∈z,hxB c=true)∧V 4 (tx 2 vb)=(2,vb,0)
 inf:tx 2 9218868437227405312=[105,110,102]
 nan:tx 2 9221120237041090561=[110,97,110]
 fal:tx 3 0=[102,97,108,115,101]
 tru:tx 3 1=[116,114,117,101]
 wi:[105,110,102]∈words
 wn:[110,97,110]∈words
 wf:[102,97,108,115,101]∈words
 wt:[116,114,117,101]∈words
 wI:[105,110,116]∈words
 wF:[102,108,111,97,116]∈words
 wp:[105,110,112,117,116]∈words
section
variable {rn:Bs→Int} {cn:Int→Int} {tx:Int→Int→Bs} {words:List By} {V:Nat→By→Int × Int × Int} (L:LawT rn cn tx words V)
include L
def Gd (words:List By) (V:Nat→By→Int × Int × Int) (u:By) (T:List Co):Prop:=Rd words V u T∧u[0]?≠some 61
omit L in
theorem Gd.blank {u:By} {T:List Co} (h:Rd words V u T):Gd words V (32::u) T:=⟨h.blank (by decide),by simp⟩
theorem g_name {x r:By} {T:List Co} (hx:rn x=0) (hr:StN r) (h:Rd words V r T):Gd words V (x++r) ((1,x,0,0)::T):=by
 obtain ⟨h1,h2,h3,h4⟩:=L.nm x hx
 refine ⟨Rd.word h1 h2 hr 1 (by rw [if_neg h3]) h4 h,?_⟩
 obtain ⟨c,r',rfl,hc⟩:=h1
 intro e
 simp at e
 exact (ltr_f hc).2.2.2 e
theorem g_word {x r:By} {T:List Co} (hw:x∈words) (h1:∃c r,x=c::r∧ltr c=true) (h2:x.all nmB=true) (hr:StN r) (h:Rd words V r T):Gd words V (x++r) ((2,x,0,0)::T):=by
 refine ⟨Rd.word h1 (by simpa using h2) hr 2 (by rw [if_pos hw]) (L.wd x) h,?_⟩
 obtain ⟨c,r',rfl,hc⟩:=h1
 intro e
 simp at e
 exact (ltr_f hc).2.2.2 e
theorem g_lit (vt vb:Int) (h0:0≤vb) (hl:litOk cn vt vb=true) {r:By} {T:List Co} (hr:End r) (h:Rd words V r T):Gd words V (tx vt vb++r) ((tL tx vt vb).core::T):=by
 unfold tL
 by_cases v1:vt=1
 ·subst v1
  simp only [litOk,if_true,decide_eq_true_eq] at hl
  obtain ⟨a1,a2,a3⟩:=L.int vb h0 hl
  rw [if_pos rfl]
  refine ⟨Rd.digits a1 a2 hr a3 h,?_⟩
  cases e:tx 1 vb with
  | nil=>exact absurd e a1
  | cons c r'=>intro e';simp at e';exact (dgt_f (a2 c (by simp [e]))).2.2 e'
 ·rw [if_neg v1]
  by_cases v2:vt=2
  ·subst v2
   rw [if_pos rfl]
   by_cases e1:vb=9218868437227405312
   ·subst e1
    rw [if_pos rfl,L.inf]
    exact g_word L L.wi ⟨105,[110,102],rfl,by decide⟩ (by decide) hr.st h
   ·rw [if_neg e1]
    by_cases e2:vb=9221120237041090561
    ·subst e2
     rw [if_pos rfl,L.nan]
     exact g_word L L.wn ⟨110,[97,110],rfl,by decide⟩ (by decide) hr.st h
    ·rw [if_neg e2]
     obtain ⟨z,a1,a2,a3⟩:=L.flo vb h0 hl e1 e2
     show Gd words V _ ((4,tx 2 vb,2,vb)::T)
     rw [a1] at a3 ⊢
     exact ⟨Rd.hex a2 hr a3 h,by simp⟩
  ·rw [if_neg v2]
   simp only [litOk,if_neg v1,if_neg v2] at hl
   by_cases v3:vt=3
   ·subst v3
    simp only [if_true,decide_eq_true_eq] at hl
    by_cases b0:vb=0
    ·subst b0
     rw [if_pos rfl,L.fal]
     exact g_word L L.wf ⟨102,[97,108,115,101],rfl,by decide⟩ (by decide) hr.st h
    ·obtain rfl:vb=1:=by omega
     rw [if_neg (by decide),L.tru]
     exact g_word L L.wt ⟨116,[114,117,101],rfl,by decide⟩ (by decide) hr.st h
   ·simp [v3] at hl
theorem g_mark {a:UInt8} {r:By} {T:List Co} (ha:a=40∨a=41∨a=44∨a=46∨a=59∨a=58∨a=123∨a=125∨a=45) (h:Rd words V r T):Gd words V (a::r) ((5,[a],0,0)::T):=by
 refine ⟨Rd.mark ?_ ?_ ?_ (L.mrk _) h,?_⟩
 ·rcases ha with rfl | rfl | rfl | rfl | rfl | rfl | rfl | rfl | rfl<;>decide
 ·intro b _
  rcases ha with rfl | rfl | rfl | rfl | rfl | rfl | rfl | rfl | rfl<;>simp [Lx.two]
 ·rcases ha with rfl | rfl | rfl | rfl | rfl | rfl | rfl | rfl | rfl<;>exact gap0 (by decide) (by decide)
 ·rcases ha with rfl | rfl | rfl | rfl | rfl | rfl | rfl | rfl | rfl<;>simp
theorem g_not {r:By} {T:List Co} (h:Gd words V r T):Gd words V (33::r) ((5,[33],0,0)::T):=by
 refine ⟨Rd.mark (by decide) ?_ (gap0 (by decide) (by decide)) (L.mrk _) h.1,by simp⟩
 intro b hb
 by_cases e:b=61
 ·subst e;exact absurd hb h.2
 ·simp [Lx.two,e]
theorem g_sep (p:EH) (hp:p.kind=7→1≤p.op∧p.op≤13) {r:By} {T:List Co} (h:Rd words V r T):Gd words V (sep p++r) ((kSe p).map Tok.core++T):=by
 unfold sep kSe
 have hb:Rd words V (32::r) T:=h.blank (by decide)
 have h1:∀a:UInt8,Lx.one a=true→(∀b,b=32→Lx.two a b=false)→a≠32→Gd words V (32::a::32::r) ((5,[a],0,0)::T):=fun a ha h2 h3=>Gd.blank (Rd.mark ha (fun b hb'=>by simp at hb';exact h2 b hb'.symm) (by
  rw [gap,gapM_false,if_neg,if_neg]
  ·rintro ⟨_,e⟩;simp at e
  ·intro e;simp only [Lx.one,Bool.or_eq_true,beq_iff_eq] at ha
   rcases ha with (((((((((((((((h | h) | h) | h) | h) | h) | h) | h) | h) | h) | h) | h) | h) | h) | h) | h) | h<;>(subst h;revert e;decide)) (L.mrk _) hb)
 have h2:∀a b:UInt8,Lx.two a b=true→Gd words V (32::a::b::32::r) ((5,[a,b],0,0)::T):=fun a b ha=>Gd.blank (Rd.mark2 ha (L.mrk _) hb)
 by_cases hk:p.kind=7
 ·rw [if_pos hk,if_pos hk]
  obtain ⟨o1,o2⟩:=hp hk
  have ho:p.op=1∨p.op=2∨p.op=3∨p.op=4∨p.op=5∨p.op=6∨p.op=7∨p.op=8∨p.op=9∨p.op=10∨p.op=11∨p.op=12∨p.op=13:=by omega
  rcases ho with e | e | e | e | e | e | e | e | e | e | e | e | e<;>rw [e]
  ·exact h1 43 (by decide) (fun b e=>by subst e;decide) (by decide)
  ·exact h1 45 (by decide) (fun b e=>by subst e;decide) (by decide)
  ·exact h1 42 (by decide) (fun b e=>by subst e;decide) (by decide)
  ·exact h1 47 (by decide) (fun b e=>by subst e;decide) (by decide)
  ·exact h1 37 (by decide) (fun b e=>by subst e;decide) (by decide)
  ·exact h2 61 61 (by decide)
  ·exact h2 33 61 (by decide)
  ·exact h1 60 (by decide) (fun b e=>by subst e;decide) (by decide)
  ·exact h2 60 61 (by decide)
  ·exact h1 62 (by decide) (fun b e=>by subst e;decide) (by decide)
  ·exact h2 62 61 (by decide)
  ·exact h2 38 38 (by decide)
  ·exact h2 124 124 (by decide)
 ·rw [if_neg hk,if_neg hk]
  exact g_mark L (by decide) hb
omit L in
theorem ite_head {p:Prop} [Decidable p] {a b:By} (ha:∃z,a=32::z) (hb:∃z,b=32::z):∃z,(if p then a else b)=32::z:=by
 by_cases h:p
 ·rw [if_pos h];exact ha
 ·rw [if_neg h];exact hb
omit L in
theorem mark_head (op:Int):∃z,Te.mark op=32::z:=by
 unfold Te.mark
 repeat (first | exact ⟨_,rfl⟩ | refine ite_head ⟨_,rfl⟩ ?_)
omit L in
theorem sep_end (p:EH) (r:By):End (sep p++r):=by
 unfold sep
 split
 ·obtain ⟨z,e⟩:=mark_head p.op
  rw [e]
  exact End.cons (by decide)
 ·exact End.cons (by decide)
theorem g_bare (h:EH) (k:Exs) (hR:RX rn cn h k) (h0:0≤h.vb) (IH:∀(rest:By) (T:List Co),End rest→Rd words V rest T→Gd words V (txK tx h true k++rest) ((kK tx h true k).map Tok.core++T))
 (rest:By) (T:List Co) (hE:End rest) (hT:Rd words V rest T):Gd words V (Te.bare tx h k++rest) ((kB tx h k).map Tok.core++T):=by
 obtain ⟨e1,e2⟩:=hR
 unfold errH at e1
 obtain ⟨hfit,e1⟩:=orE_0 e1
 obtain ⟨hnm,_⟩:=orE_0 e1
 have hfit:fitsE cn h k.len=true:=by
  by_cases e:fitsE cn h k.len=true
  ·exact e
  ·rw [if_neg e] at hfit;omega
 have hK:h.kind=1∨h.kind=2∨h.kind=3∨h.kind=4∨h.kind=5∨h.kind=6∨h.kind=7∨h.kind=8:=by
  unfold fitsE at hfit
  repeat' split at hfit
  all_goals first | omega | cases hfit
 unfold Te.bare kB
 rw [List.append_assoc,List.append_assoc,List.map_append,List.map_append,List.append_assoc,List.append_assoc]
 rcases hK with e | e | e | e | e | e | e | e
 ·have hk:k = .nil:=len0 (by simp [fitsE,e] at hfit;exact hfit.2.2.2.2)
  have hl:litOk cn h.vt h.vb=true:=by simp [fitsE,e] at hfit;exact hfit.1
  subst hk
  simp only [pre,post,kP,kPo,e,txK,kK]
  exact g_lit L h.vt h.vb h0 hl hE hT
 ·have hk:k = .nil:=len0 (by simp [fitsE,e] at hfit;exact hfit.2.2.2.2)
  have hn:rn h.name=0:=by simpa [nameE,e] using hnm
  subst hk
  simp only [pre,post,kP,kPo,e,txK,kK]
  exact g_name L hn hE.st hT
 ·have hk:k = .nil:=len0 (by simp [fitsE,e] at hfit;exact hfit.2.2.2)
  have hm:orE (rn h.mod) (rn h.name)=0:=by simpa [nameE,e] using hnm
  obtain ⟨m1,m2⟩:=orE_0 hm
  subst hk
  simp only [pre,post,kP,kPo,e,txK,kK]
  have:=g_name L m1 (StN.cons (by decide)) (g_mark L (a:=46) (by decide) (g_name L m2 hE.st hT).1).1
  simpa [tN,tM,Tok.core] using this
 ·have hn:rn h.name=0:=by simpa [nameE,e] using hnm
  have:=g_name L hn (StN.cons (by decide)) (g_mark L (a:=40) (by decide) (IH (41::rest) _ (End.cons (by decide)) (g_mark L (a:=41) (by decide) hT).1).1).1
  simpa [pre,post,kP,kPo,e,tN,tM,Tok.core] using this
 ·have hm:orE (rn h.mod) (rn h.name)=0:=by simpa [nameE,e] using hnm
  obtain ⟨m1,m2⟩:=orE_0 hm
  have:=g_name L m1 (StN.cons (by decide)) (g_mark L (a:=46) (by decide) (g_name L m2 (StN.cons (by decide)) (g_mark L (a:=40) (by decide) (IH (41::rest) _ (End.cons (by decide)) (g_mark L (a:=41) (by decide) hT).1).1).1).1).1
  simpa [pre,post,kP,kPo,e,tN,tM,Tok.core] using this
 ·have ho:h.op=1∨h.op=2∨h.op=3∨h.op=4:=by
   simp [fitsE,e] at hfit;omega
  rcases ho with o | o | o | o
  ·have:=g_mark L (a:=45) (by decide) (IH rest T hE hT).1
   simpa [pre,post,kP,kPo,e,o,tM,Tok.core] using this
  ·have:=g_not L (IH rest T hE hT)
   simpa [pre,post,kP,kPo,e,o,tM,Tok.core] using this
  ·have:=g_word L L.wI ⟨105,[110,116],rfl,by decide⟩ (by decide) (StN.cons (by decide)) (g_mark L (a:=40) (by decide) (IH (41::rest) _ (End.cons (by decide)) (g_mark L (a:=41) (by decide) hT).1).1).1
   simpa [pre,post,kP,kPo,e,o,tM,tW,Tok.core] using this
  ·have:=g_word L L.wF ⟨102,[108,111,97,116],rfl,by decide⟩ (by decide) (StN.cons (by decide)) (g_mark L (a:=40) (by decide) (IH (41::rest) _ (End.cons (by decide)) (g_mark L (a:=41) (by decide) hT).1).1).1
   simpa [pre,post,kP,kPo,e,o,tM,tW,Tok.core] using this
 ·have:=IH rest T hE hT
  simpa [pre,post,kP,kPo,e] using this
 ·have hk:k = .nil:=len0 (by simp [fitsE,e] at hfit;exact hfit.2.2.2.2.2)
  subst hk
  have:=g_word L L.wp ⟨105,[110,112,117,116],rfl,by decide⟩ (by decide) hE.st hT
  simpa [pre,post,kP,kPo,e,txK,kK,tW,Tok.core] using this
theorem g_par (b:Bool) (x:By) (X:List Tok) (IH:∀(rest:By) (T:List Co),End rest→Rd words V rest T→Gd words V (x++rest) (X.map Tok.core++T)) (rest:By) (T:List Co) (hE:End rest) (hT:Rd words V rest T) :
 Gd words V (par b x++rest) ((kPar b X).map Tok.core++T):=by
 cases b with
 | false=>exact IH rest T hE hT
 | true =>
   have:=g_mark L (a:=40) (by decide) (IH (41::rest) _ (End.cons (by decide)) (g_mark L (a:=41) (by decide) hT).1).1
   simpa [par,kPar,tM,Tok.core] using this
theorem g_kids:∀(k:Exs) (p:EH) (first:Bool) (hp:p.kind=7→1≤p.op∧p.op≤13) (hk:errL rn cn k=0) (hN:NnX k) (rest:By) (T:List Co),End rest→Rd words V rest T→Gd words V (txK tx p first k++rest) ((kK tx p first k).map Tok.core++T)
 | .nil,p,first,hp,hk,hN,rest,T,hE,hT=>by simpa [txK,kK] using (show Gd words V rest T from ⟨hT,hE.no⟩)
 | .cons h k r,p,first,hp,hk,hN,rest,T,hE,hT=>by
   obtain ⟨hR,hr⟩:=RX_kid hk
   obtain ⟨n0,n1,n2⟩:=hN
   have hq:h.kind=7→1≤h.op∧h.op≤13:=by
    intro e
    have h1:=hR.1
    unfold errH at h1
    have h2:=(orE_0 h1).1
    by_cases hf:fitsE cn h k.len=true
    ·simp [fitsE,e] at hf;omega
    ·rw [if_neg hf] at h2;omega
   have i1:=g_kids k h true hq hR.2 n1
   have i2:=g_kids r p false hp hr n2 rest T hE hT
   have i3:=g_par L (decide (level h<kidL p first)) (Te.bare tx h k) (kB tx h k) (g_bare L h k hR n0 i1) (txK tx p false r++rest) _ (by
    cases r with
    | nil=>simpa [txK] using hE
    | cons h' k' r'=>simp only [txK,List.append_assoc];exact sep_end p _) i2.1
   rw [txK,kK]
   cases first with
   | true=>simpa [Te.bare,kB,List.append_assoc] using i3
   | false =>
     have i4:=g_sep L p hp i3.1
     simpa [Te.bare,kB,List.append_assoc] using i4
theorem g_expr (h:EH) (k:Exs) (hR:RX rn cn h k) (h0:0≤h.vb) (hN:NnX k) (rest:By) (T:List Co) (hE:End rest) (hT:Rd words V rest T):Gd words V (Te.bare tx h k++rest) ((kB tx h k).map Tok.core++T):=by
 refine g_bare L h k hR h0 ?_ rest T hE hT
 have hq:h.kind=7→1≤h.op∧h.op≤13:=by
  intro e
  have h1:=hR.1
  unfold errH at h1
  have h2:=(orE_0 h1).1
  by_cases hf:fitsE cn h k.len=true
  ·simp [fitsE,e] at hf;omega
  ·rw [if_neg hf] at h2;omega
 exact g_kids L k h true hq hR.2 hN
end
end Pz
end
section
namespace Pz
open Lx Te
theorem toks_det {words:List By} {V:Nat→By→Int × Int × Int} {p:Nat} {u:By} {ts:List Tok} (h:Toks words V p u ts):∀ts',Toks words V p u ts'→ts=ts':=by
 induction h with
 | done p=>intro ts' h';exact (toks_nil words V h').symm
 | more p x r k ty b ts hk h0 hg hv h ih =>
   intro ts' h'
   generalize hu:x++r=u at h'
   cases h' with
   | done=>simp [h0] at hu
   | more _ x' r' k' ty' b' ts' hk' h0' hg' hv' h' =>
     rw [hu,hk'] at hk
     obtain ⟨rfl,hl⟩:=Prod.mk.inj hk
     obtain ⟨rfl,rfl⟩:=List.append_inj hu hl.symm
     rw [hv] at hv'
     simp only [Prod.mk.injEq,and_true] at hv'
     rw [hv'.1,hv'.2,ih _ h']
theorem rd_lex {words:List By} {V:Nat→By→Int × Int × Int} {s:By} {T:List Co} (h:Rd words V s T) {ts:List Tok} {q:Nat} (hl:lexS words V s=(ts,q,0)):ts.map Tok.core=T:=by
 rcases toks_of_lexS words V s ts q 0 hl with ⟨_,_,_,_,h1⟩ | ⟨h1,_⟩
 ·obtain ⟨ts',h2,h3⟩:=h (gap s)
  rw [toks_det h1 _ h2]
  exact h3
 ·exact absurd rfl h1
section
variable {rn:Bs→Int} {cn:Int→Int} {tx:Int→Int→Bs} {words:List By} {V:Nat→By→Int × Int × Int}
theorem LawT.law (L:LawT rn cn tx words V) (hi:∀vb,0≤vb→∃c r,tx 1 vb=c::r∧dgt c=true):Law rn cn tx where
 nm:=fun x h=>(L.nm x h).1
 int:=hi
 flo:=fun vb h0 hl h1 h2=>by
  obtain ⟨z,e,_⟩:=L.flo vb h0 hl h1 h2
  exact ⟨48,120::z,e,by decide⟩
end
end Pz
end
section
namespace Pz
open Lx Te
def kws:List Bs:=[[108,101,116],[105,102],[101,108,115,101],[119,104,105,108,101],[114,101,116,117,114,110],[115,104,111,119],[102,97,105,108],[116,114,121],[99,97,116,99,104],[99,111,110,115,116],[118,97,114],[102,110],[101,120,112,111,114,116],[105,109,112,111,114,116],[109,111,100,117,108,101],[105,110,116],[102,108,111,97,116],[98,111,111,108]]
section
variable {rn:Bs→Int} {cn:Int→Int} {tx:Int→Int→Bs} {words:List By} {V:Nat→By→Int × Int × Int} (L:LawT rn cn tx words V) (hw:∀x∈kws,x∈words)
theorem rd_pad {u:By} {T:List Co} (h:Rd words V u T):∀n,Rd words V (pad n++u) T
 | 0=>by simpa [pad] using h
 | n+1=>by
   have:=((rd_pad h n).blank (c:=32) (by decide)).blank (c:=32) (by decide)
   simpa [pad,List.replicate_succ] using this
include L
theorem rd_eq {u:By} {T:List Co} (h:Rd words V u T):Rd words V (32::61::32::u) ((5,[61],0,0)::T) :=
 (Rd.mark (by decide) (fun b hb=>by simp at hb;subst hb;decide) (gap0 (by decide) (by decide)) (L.mrk _) (h.blank (by decide))).blank (by decide)
theorem rd_end {u:By} {T:List Co} (h:Rd words V u T):Rd words V (59::10::u) ((5,[59],0,0)::T):=(g_mark L (by decide) (h.blank (by decide))).1
theorem rd_br {a:UInt8} (ha:a=123∨a=125) {u:By} {T:List Co} (h:Rd words V u T):Rd words V (a::10::u) ((5,[a],0,0)::T):=(g_mark L (by rcases ha with rfl | rfl<;>decide) (h.blank (by decide))).1
include hw
theorem rd_w (x:Bs) (hx:x∈kws) {u:By} {T:List Co} (h:Rd words V u T):Rd words V (x++32::u) ((2,x,0,0)::T):=by
 have h1:(∃c r,x=c::r∧ltr c=true)∧x.all nmB=true:=by
  simp only [kws,List.mem_cons,List.not_mem_nil,or_false] at hx
  rcases hx with rfl | rfl | rfl | rfl | rfl | rfl | rfl | rfl | rfl | rfl | rfl | rfl | rfl | rfl | rfl | rfl | rfl | rfl<;>exact ⟨⟨_,_,rfl,by decide⟩,by decide⟩
 exact (g_word L (hw x hx) h1.1 h1.2 (StN.cons (by decide)) (h.blank (by decide))).1
theorem rd_w2 (x:Bs) (hx:x∈kws) {u:By} {T:List Co} (hu:StN u) (h:Rd words V u T):Rd words V (x++u) ((2,x,0,0)::T):=by
 have h1:(∃c r,x=c::r∧ltr c=true)∧x.all nmB=true:=by
  simp only [kws,List.mem_cons,List.not_mem_nil,or_false] at hx
  rcases hx with rfl | rfl | rfl | rfl | rfl | rfl | rfl | rfl | rfl | rfl | rfl | rfl | rfl | rfl | rfl | rfl | rfl | rfl<;>exact ⟨⟨_,_,rfl,by decide⟩,by decide⟩
 exact (g_word L (hw x hx) h1.1 h1.2 hu h).1
omit hw in
theorem rd_f (x:EH) (k:Exs) (hE:errL rn cn (.cons x k .nil)=0) (hN:NnX (.cons x k .nil)) {u:By} {T:List Co} (hu:End u) (h:Rd words V u T):Rd words V (txF tx (.cons x k .nil)++u) ((kF tx (.cons x k .nil)).map Tok.core++T) :=
 (g_expr L x k (RX_kid hE).1 hN.1 hN.2.1 u T hu h).1
theorem rd_st:∀(s:Sts) (n:Nat) (rest:By) (T:List Co),errS rn cn s=0→NnS s→Rd words V rest T→Rd words V (stT tx s n++rest) ((kSt tx s).map Tok.core++T):=by
 intro s
 induction s with
 | nil=>intro n rest T _ _ h;simpa [stT,kSt] using h
 | cons h e b l r ihb ihl ihr =>
   intro n rest T he hN hT
   rw [errS] at he
   obtain ⟨h1,h2⟩:=orE_0 he
   obtain ⟨hH,h3⟩:=orE_0 h1
   obtain ⟨hE,h4⟩:=orE_0 h3
   obtain ⟨hb,hl⟩:=orE_0 h4
   obtain ⟨n1,n2,n3,n4⟩:=hN
   have hr:=ihr n rest T h2 n4 hT
   unfold errSH at hH
   obtain ⟨hfit,hnm⟩:=orE_0 hH
   have hfit:fitsS h e b.len l.len=true:=by
    by_cases e':fitsS h e b.len l.len=true
    ·exact e'
    ·rw [if_neg e'] at hfit;omega
   obtain ⟨kind,nm⟩:=h
   have hK:kind=1∨kind=2∨kind=3∨kind=4∨kind=5∨kind=6∨kind=7∨kind=8∨kind=9:=by
    unfold fitsS at hfit
    simp only at hfit
    repeat' split at hfit
    all_goals first | omega | cases hfit
   rcases hK with rfl | rfl | rfl | rfl | rfl | rfl | rfl | rfl | rfl
   ·simp [fitsS] at hfit
    obtain ⟨x,k,rfl⟩:=one_of hfit.1
    have hn:rn nm=0:=by simpa [nameS] using hnm
    have:=rd_pad (rd_w L hw [108,101,116] (by decide) (g_name L hn (StN.cons (by decide)) (rd_eq L (rd_f L x k hE n1 (End.cons (by decide)) (rd_end L hr)))).1) n
    simpa [stT,kSt,tW,tM,tN,Tok.core,List.append_assoc] using this
   ·simp [fitsS] at hfit
    obtain ⟨x,k,rfl⟩:=one_of hfit.1
    have hn:rn nm=0:=by simpa [nameS] using hnm
    have:=rd_pad (g_name L hn (StN.cons (by decide)) (rd_eq L (rd_f L x k hE n1 (End.cons (by decide)) (rd_end L hr)))).1 n
    simpa [stT,kSt,tW,tM,tN,Tok.core,List.append_assoc] using this
   ·simp [fitsS] at hfit
    obtain ⟨x,k,rfl⟩:=one_of hfit.1
    by_cases hl0:0<l.len
    ·have i1:=rd_pad (rd_br L (Or.inr rfl) hr) n
     have i2:=ihl (n+1) _ _ hl n3 i1
     have i3:=rd_pad (g_mark L (a:=125) (by decide) ((rd_w L hw [101,108,115,101] (by decide) (rd_br L (Or.inl rfl) i2)).blank (c:=32) (by decide))).1 n
     have i4:=ihb (n+1) _ _ hb n2 i3
     have:=rd_pad (rd_w L hw [105,102] (by decide) (rd_f L x k hE n1 (End.cons (by decide)) ((rd_br L (Or.inl rfl) i4).blank (c:=32) (by decide)))) n
     simpa [stT,kSt,hl0,tW,tM,tN,Tok.core,List.append_assoc] using this
    ·have i3:=rd_pad (rd_br L (Or.inr rfl) hr) n
     have i4:=ihb (n+1) _ _ hb n2 i3
     have:=rd_pad (rd_w L hw [105,102] (by decide) (rd_f L x k hE n1 (End.cons (by decide)) ((rd_br L (Or.inl rfl) i4).blank (c:=32) (by decide)))) n
     simpa [stT,kSt,hl0,tW,tM,tN,Tok.core,List.append_assoc] using this
   ·simp [fitsS] at hfit
    obtain ⟨x,k,rfl⟩:=one_of hfit.1
    have i3:=rd_pad (rd_br L (Or.inr rfl) hr) n
    have i4:=ihb (n+1) _ _ hb n2 i3
    have:=rd_pad (rd_w L hw [119,104,105,108,101] (by decide) (rd_f L x k hE n1 (End.cons (by decide)) ((rd_br L (Or.inl rfl) i4).blank (c:=32) (by decide)))) n
    simpa [stT,kSt,tW,tM,tN,Tok.core,List.append_assoc] using this
   ·simp [fitsS] at hfit
    cases e with
    | nil =>
      have:=rd_pad (rd_w2 L hw [114,101,116,117,114,110] (by decide) (StN.cons (by decide)) (rd_end L hr)) n
      simpa [stT,kSt,kF,Exs.len,tW,tM,tN,Tok.core,List.append_assoc] using this
    | cons x k r0 =>
      obtain ⟨_,_,e1⟩:=one_of (e:=.cons x k r0) (by have:=hfit.1;simp [Exs.len] at this ⊢;omega)
      cases e1
      have:=rd_pad (rd_w L hw [114,101,116,117,114,110] (by decide) (rd_f L x k hE n1 (End.cons (by decide)) (rd_end L hr))) n
      simpa [stT,kSt,Exs.len,tW,tM,tN,Tok.core,List.append_assoc] using this
   ·simp [fitsS] at hfit
    obtain ⟨x,k,rfl⟩:=one_of hfit.1
    have:=rd_pad (rd_w L hw [115,104,111,119] (by decide) (rd_f L x k hE n1 (End.cons (by decide)) (rd_end L hr))) n
    simpa [stT,kSt,tW,tM,tN,Tok.core,List.append_assoc] using this
   ·simp [fitsS] at hfit
    obtain ⟨x,k,rfl⟩:=one_of hfit.1
    have:=rd_pad (rd_w L hw [102,97,105,108] (by decide) (rd_f L x k hE n1 (End.cons (by decide)) (rd_end L hr))) n
    simpa [stT,kSt,tW,tM,tN,Tok.core,List.append_assoc] using this
   ·simp [fitsS] at hfit
    have hn:rn nm=0:=by simpa [nameS] using hnm
    have i1:=rd_pad (rd_br L (Or.inr rfl) hr) n
    have i2:=ihl (n+1) _ _ hl n3 i1
    have i3:=rd_pad (g_mark L (a:=125) (by decide) ((rd_w L hw [99,97,116,99,104] (by decide) (g_name L hn (StN.cons (by decide)) ((rd_br L (Or.inl rfl) i2).blank (c:=32) (by decide))).1).blank (c:=32) (by decide))).1 n
    have i4:=ihb (n+1) _ _ hb n2 i3
    have:=rd_pad (rd_w L hw [116,114,121] (by decide) (rd_br L (Or.inl rfl) i4)) n
    simpa [stT,kSt,tW,tM,tN,Tok.core,List.append_assoc] using this
   ·simp [fitsS] at hfit
    obtain ⟨x,k,rfl⟩:=one_of hfit.1
    have:=rd_pad (rd_f L x k hE n1 (End.cons (by decide)) (rd_end L hr)) n
    simpa [stT,kSt,tW,tM,tN,Tok.core,List.append_assoc] using this
end
end Pz
end
section
namespace Pz
open Lx Te
section
variable {rn:Bs→Int} {cn:Int→Int} {tx:Int→Int→Bs} {words:List By} {V:Nat→By→Int × Int × Int} (L:LawT rn cn tx words V) (hw:∀x∈kws,x∈words)
include L hw
theorem rd_ty {t:Int} (ht:t=0∨isTy t=true) {u:By} {T:List Co} (hu:StN u) (h:Rd words V u T):Rd words V (tyT t++u) ((kTy t).map Tok.core++T)∧StN (tyT t++u):=by
 have ht:t=0∨t=1∨t=2∨t=3:=by
  rcases ht with rfl | ht
  ·exact Or.inl rfl
  ·exact Or.inr (isTy_c ht)
 rcases ht with rfl | rfl | rfl | rfl
 ·exact ⟨h,hu⟩
 ·exact ⟨(g_mark L (a:=58) (by decide) ((rd_w2 L hw [105,110,116] (by decide) hu h).blank (c:=32) (by decide))).1,StN.cons (by decide)⟩
 ·exact ⟨(g_mark L (a:=58) (by decide) ((rd_w2 L hw [102,108,111,97,116] (by decide) hu h).blank (c:=32) (by decide))).1,StN.cons (by decide)⟩
 ·exact ⟨(g_mark L (a:=58) (by decide) ((rd_w2 L hw [98,111,111,108] (by decide) hu h).blank (c:=32) (by decide))).1,StN.cons (by decide)⟩
theorem rd_p1 (p:Pa) (h1:rn p.name=0) (h2:isTy p.type=true) {u:By} {T:List Co} (hu:StN u) (h:Rd words V u T):Rd words V (p.name++tyT p.type++u) ((kP1 p).map Tok.core++T):=by
 have i1:=rd_ty L hw (Or.inr h2) hu h
 have:=(g_name L h1 i1.2 i1.1).1
 simpa [kP1,tN,Tok.core,List.append_assoc] using this
theorem rd_pa:∀(ps:List Pa) (hp:∀p∈ps,rn p.name=0∧isTy p.type=true) {u:By} {T:List Co} (hu:StN u) (h:Rd words V u T),Rd words V (paT ps++u) ((kPa ps).map Tok.core++T)
 | [],_,u,T,hu,h=>h
 | [p],hp,u,T,hu,h=>by
   have:=rd_p1 L hw p (hp p (by simp)).1 (hp p (by simp)).2 hu h
   simpa [paT,kPa] using this
 | p::q::r,hp,u,T,hu,h=>by
   have i1:=rd_pa (q::r) (fun x hx=>hp x (by simp at hx ⊢;right;exact hx)) hu h
   have i2:=(g_mark L (a:=44) (by decide) (i1.blank (c:=32) (by decide))).1
   have:=rd_p1 L hw p (hp p (by simp)).1 (hp p (by simp)).2 (StN.cons (by decide)) i2
   simpa [paT,kPa,tM,Tok.core,List.append_assoc] using this
theorem rd_ex (b:Bool) {u:By} {T:List Co} (h:Rd words V u T):Rd words V (exT b++u) ((kEx b).map Tok.core++T):=by
 cases b
 ·exact h
 ·exact rd_w L hw [101,120,112,111,114,116] (by decide) h
theorem rd_ho (d:De) (h1:isTy d.type=true) (h2:d.e.len=1) (h3:rn d.name=0) (hE:errL rn cn d.e=0) (hN:NnX d.e) {u:By} {T:List Co} (h:Rd words V u T):Rd words V (d.name++tyT d.type++[32,61,32]++txF tx d.e++[59,10]++u) ((kHo tx d).map Tok.core++T):=by
 obtain ⟨kind',ex,nm,ty,ps,e,body⟩:=d
 simp only at h1 h2 h3 hE hN ⊢
 obtain ⟨x,k,rfl⟩:=one_of h2
 have i1:=rd_eq L (rd_f L x k hE hN (End.cons (by decide)) (rd_end L h))
 have i2:=rd_ty L hw (Or.inr h1) (StN.cons (by decide)) i1
 have:=(g_name L h3 i2.2 i2.1).1
 simpa [kHo,tM,tN,Tok.core,List.append_assoc] using this
theorem rd_de (d:De) (he:errD rn cn d=0) (hN:NnD d) {u:By} {T:List Co} (h:Rd words V u T):Rd words V (deT tx d++u) ((kDe tx d).map Tok.core++T):=by
 obtain ⟨h1,h2,h3,h4,h5,h6,h7⟩:=errD_of he
 have hK:d.kind=1∨d.kind=2∨d.kind=3:=by
  unfold fitsD at h2
  repeat' split at h2
  all_goals first | omega | cases h2
 rcases hK with e | e | e
 ·simp [fitsD,e] at h2
  obtain ⟨t1,t2,t3,t4⟩:=h2
  have:=rd_ex L hw d.ex (rd_w L hw [99,111,110,115,116] (by decide) (rd_ho L hw d t1 t2 h3 h6 hN.1 h))
  simpa [deT,kDe,e,tW,Tok.core,List.append_assoc] using this
 ·simp [fitsD,e] at h2
  obtain ⟨⟨t0,t1⟩,t2,t3,t4⟩:=h2
  have:=rd_w L hw [118,97,114] (by decide) (rd_ho L hw d t1 t2 h3 h6 hN.1 h)
  simpa [deT,kDe,e,tW,Tok.core,List.append_assoc] using this
 ·simp [fitsD,e] at h2
  obtain ⟨t1,t2⟩:=h2
  have i1:=rd_st L hw d.body 1 _ _ h7 hN.2 (rd_br L (Or.inr rfl) h)
  have i2:=(rd_br L (Or.inl rfl) i1).blank (c:=32) (by decide)
  have i3:=rd_ty L hw t1 (StN.cons (by decide)) i2
  have i4:=rd_pa L hw d.params (errP_of d.params h5) (StN.cons (by decide)) (g_mark L (a:=41) (by decide) i3.1).1
  have i5:=(g_name L h3 (StN.cons (by decide)) (g_mark L (a:=40) (by decide) i4).1).1
  have:=rd_ex L hw d.ex (rd_w L hw [102,110] (by decide) i5)
  simpa [deT,kDe,kFn,e,tW,tM,tN,Tok.core,List.append_assoc] using this
theorem rd_des:∀(ds:List De),errDs rn cn ds=0→(∀d∈ds,NnD d)→Rd words V (ds.flatMap (deT tx)) ((ds.flatMap (kDe tx)).map Tok.core)
 | [],_,_=>Rd.nil
 | d::ds,he,hN=>by
   rw [errDs] at he
   obtain ⟨h1,h2⟩:=orE_0 he
   have:=rd_de L hw d h1 (hN d (by simp)) (rd_des ds h2 (fun x hx=>hN x (by simp [hx])))
   simpa using this
theorem rd_im:∀(is:List Bs),errI rn is=0→∀{u:By} {T:List Co},Rd words V u T→Rd words V (is.flatMap (fun x=>[105,109,112,111,114,116,32]++x++[59,10])++u) ((is.flatMap kIm).map Tok.core++T)
 | [],_,u,T,h=>h
 | x::is,he,u,T,h=>by
   rw [errI] at he
   obtain ⟨h1,h2⟩:=orE_0 he
   have:=rd_w L hw [105,109,112,111,114,116] (by decide) (g_name L h1 (StN.cons (by decide)) (rd_end L (rd_im is h2 h))).1
   simpa [kIm,tW,tM,tN,Tok.core,List.append_assoc] using this
theorem rd_mo (m:Mo) (he:errM rn cn m=0) (hN:∀d∈m.decls,NnD d):Rd words V (moT tx m) ((kMo tx m).map Tok.core):=by
 unfold errM at he
 obtain ⟨h1,he⟩:=orE_0 he
 obtain ⟨h2,he⟩:=orE_0 he
 obtain ⟨h3,he⟩:=orE_0 he
 obtain ⟨h4,h5⟩:=orE_0 he
 have:=rd_w L hw [109,111,100,117,108,101] (by decide) (g_name L h1 (StN.cons (by decide)) (rd_end L (rd_im L hw m.imports h3 (rd_des L hw m.decls h5 hN)))).1
 simpa [moT,kMo,tW,tM,tN,Tok.core,List.append_assoc] using this
theorem mod_back (hi:∀vb,0≤vb→∃c r,tx 1 vb=c::r∧dgt c=true) (m:Mo) (he:errM rn cn m=0) (hN:∀d∈m.decls,NnD d) (ts:List Tok) (q:Nat) (hl:lexS words V (moT tx m)=(ts,q,0)) (n:Nat):parT ts n=some (some m,0,0) :=
 parT_back (L.law hi) (fun x hx e=>(L.nm x hx).2.2.1 (by rw [e];exact hw _ (by decide))) m he hN ts (rd_lex (rd_mo L hw m he hN) hl) n
end
end Pz
end
section
namespace Pz
open Lx Te
section
variable {words:List By} {V:Nat→By→Int × Int × Int}
theorem toks_big {p:Nat} {u:By} {ts:List Tok} (h:Toks words V p u ts):∀(f:Nat) (acc:List Tok),u.length<f→acc.length≤1024→1024<acc.length+ts.length→(lexU words V f p acc u).2.2=3:=by
 induction h with
 | done p=>intro f acc _ h1 h2;simp at h2;omega
 | more p x r k ty b ts hk h0 hg hv h ih =>
   intro f acc hf ha hb
   obtain ⟨f,rfl⟩:∃x,f=x+1:=⟨f - 1,by omega⟩
   have hl:x.length≠0:=by intro e;exact h0 (List.eq_nil_of_length_eq_zero e)
   have hgl:=gap_le r false
   unfold lexU
   simp only [hk,hl,List.take_left,List.drop_left,hv,if_false,ne_eq,not_true_eq_false]
   rw [if_neg (by simp [h0])]
   by_cases h1:acc.length=1024
   ·rw [if_pos h1]
   ·rw [if_neg h1]
    exact ih f (acc++[⟨k,x,ty,b,p⟩]) (by rw [List.length_drop];simp only [List.length_append] at hf;omega) (by simp only [List.length_append,List.length_cons,List.length_nil];omega) (by simp only [List.length_append,List.length_cons,List.length_nil] at hb ⊢;omega)
theorem rd_err {s:By} {T:List Co} (h:Rd words V s T):(lexS words V s).2.2=0∨(lexS words V s).2.2=3:=by
 by_cases hl:4096<s.length
 ·right
  unfold lexS
  rw [if_pos hl]
 ·obtain ⟨ts,h1,h2⟩:=h (gap s)
  by_cases ht:1024<ts.length
  ·right
   unfold lexS
   rw [if_neg hl]
   exact toks_big h1 _ _ (by rw [List.length_drop];omega) (by simp) (by simpa using ht)
  ·left
   rw [lexS_of_toks words V s ts (by omega) (by omega) h1]
end
section
variable {rn:Bs→Int} {cn:Int→Int} {tx:Int→Int→Bs} {words:List By} {V:Nat→By→Int × Int × Int} (L:LawT rn cn tx words V) (hw:∀x∈kws,x∈words)
include L hw
end
end Pz
end
section
namespace Pz
open Lx Te
def Nz {α:Type}:Ou α→Prop
 | some (.er p c)=>c≠0
 | _=>True
theorem Nz.ok {α:Type} {a:α} {ts:List Tok}:Nz (some (.ok a ts)):=trivial
theorem Nz.bd {α β:Type} {m:Ou α} {k:α→List Tok→Ou β} (h:Nz m) (hk:∀a ts,Nz (k a ts)):Nz (bd m k):=by
 rcases m with _ | ⟨a,ts⟩ | ⟨p,c⟩
 ·trivial
 ·exact hk a ts
 ·exact h
section
variable {E:Bool→Nat→List Tok→Ou Ex} (hE:∀fl d ts,Nz (E fl d ts))
include hE
end
end Pz
end
end Go.Proofs.YteijjaabngkbjaaGreatDoor
