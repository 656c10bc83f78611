/- PsL PsM PsT PsN PsV PsW PwA -/
import Derived.Test.YteijjaabngkbjaaGreatDoorPsKB
import Derived.Test.YteijjaabngkbjaaGreatDoorLxAll
import Derived.Test.YteijjaabngkbjaaGreatDoorNyAB
set_option maxRecDepth 100000
set_option maxHeartbeats 40000000
set_option linter.unusedVariables false
set_option linter.unusedSimpArgs false
set_option linter.unusedSectionVars false
namespace Go.Proofs.YteijjaabngkbjaaGreatDoor
section
namespace Pz
open Lx Te
section
variable {rn:Bs→Int} {cn:Int→Int} {tx:Int→Int→Bs} (L:Law rn cn tx) (hEl:∀x,rn x=0→x≠[101,108,115,101])
def StOk (rn:Bs→Int) (cn:Int→Int) (tx:Int→Int→Bs) (g:Nat) (s:Sts):Prop:=∀(f d g':Nat) (acc:Sts) (a':Int) (rest:List Tok),errS rn cn s=0→NnS s→(kSt tx s++tM [125]::rest).length<g→(kSt tx s++tM [125]::rest).length≤g'→(kSt tx s).length≤f→d≤32→dS s (d:Int) a'≤32 →
 sts (stm (E0 g) (C0 g) (blk (E0 g) (C0 g) g f) d) g' acc (kSt tx s++tM [125]::rest)=some (.ok (acc.app s) (tM [125]::rest))
theorem blk_back (g:Nat) (s:Sts) (h:StOk rn cn tx g s) (f d:Nat) (rest:List Tok) (he:errS rn cn s=0) (hN:NnS s) (hg:(tM [123]::(kSt tx s++tM [125]::rest)).length<g) (hf:(kSt tx s).length<f) (hd:d≤32) (hD:dS s ((d:Int)+1) ((d:Int)+1)≤32) :
 blk (E0 g) (C0 g) g f d (tM [123]::(kSt tx s++tM [125]::rest))=some (.ok s rest):=by
 obtain ⟨f,rfl⟩:∃x,f=x+1:=⟨f - 1,by omega⟩
 have h1:=dS_acc s ((d:Int)+1) ((d:Int)+1)
 simp only [List.length_cons] at hg
 have hs:=h f (d+1) g .nil ((d:Int)+1) rest he hN (by omega) (by omega) (by omega) (by omega) (by simpa using hD)
 rw [blk,opn,if_pos (by rfl),if_neg (by omega),if_neg (by decide),bd_ok,hs,bd_ok,must_y (by rfl),bd_ok]
 rfl
include L hEl
theorem st_head (s:Sts) (he:errS rn cn s=0) (hN:NnS s) (g d:Nat) (hg:(kSt tx s++[tM [125]]).length+1<g):∀rest,∃t r,kSt tx s++tM [125]::rest=t::r∧t.x≠[101,108,115,101]∧(s = .nil∨t.x≠[125]):=by
 intro rest
 cases s with
 | nil=>exact ⟨tM [125],rest,rfl,by decide,Or.inl rfl⟩
 | cons h e b l r =>
   rw [errS] at he
   obtain ⟨h1,_⟩:=orE_0 he
   obtain ⟨h2,h3⟩:=orE_0 h1
   obtain ⟨h4,_⟩:=orE_0 h3
   obtain ⟨u,r',e1,e2⟩:=one_head L h e b l h2 h4 hN.1
   refine ⟨u,r'++(kSt tx r++tM [125]::rest),by rw [kSt_cons,e1];simp,?_,Or.inr ?_⟩
   ·rcases e2 with ⟨n,rfl,hn⟩ | e2
    ·exact hEl n hn
    ·exact e2.1
   ·rcases e2 with ⟨n,rfl,hn⟩ | e2
    ·obtain ⟨c,r'',e3,hc⟩:=L.nm n hn
     intro e4
     simp only [tN] at e4
     rw [e3] at e4
     cases e4
     revert hc;decide
    ·exact e2.2
theorem sts_back (g:Nat):∀(s:Sts),StOk rn cn tx g s:=by
 intro s
 induction s with
 | nil =>
   intro f d g' acc a' rest _ _ _ hg' _ _ _
   obtain ⟨g',rfl⟩:∃x,g'=x+1:=⟨g' - 1,by simp only [List.length_append,List.length_cons] at hg';omega⟩
   rw [kSt,List.nil_append,sts,if_pos (by rfl),Sts.app_nil]
 | cons h e b l r ihb ihl ihr =>
   intro f d g' acc a' rest he hN hg hg' hf hd hD
   have he0:=he
   rw [errS] at he
   obtain ⟨h1,h2⟩:=orE_0 he
   obtain ⟨hH,h3⟩:=orE_0 h1
   obtain ⟨hE,h4⟩:=orE_0 h3
   obtain ⟨hb,hl⟩:=orE_0 h4
   obtain ⟨n1,n2,n3,n4⟩:=hN
   obtain ⟨d1,d2,d3,acc',d4⟩:=dS_cons (by omega) (by omega) hD
   obtain ⟨u,ru,e1,e2⟩:=one_head L h e b l hH hE n1
   have hlen:0<(kOne tx h e b l).length:=by rw [e1];simp
   have hbl:=one_len (rn:=rn) (tx:=tx) h e b l
   rw [kSt_cons] at hg hg' hf ⊢
   simp only [List.length_append] at hf
   have hl0:(kOne tx h e b l++kSt tx r++tM [125]::rest).length=(kOne tx h e b l).length+(kSt tx r).length+(rest.length+1):=by simp only [List.length_append,List.length_cons]
   rw [hl0] at hg hg'
   obtain ⟨t,r',e3,e4,_⟩:=st_head L hEl r h2 n4 (((kSt tx r++[tM [125]]).length+1)+1) d (by omega) rest
   have e3l:(kSt tx r).length+(rest.length+1)=r'.length+1:=by have:=congrArg List.length e3;simp only [List.length_append,List.length_cons] at this;exact this
   have hs:=stm_back L h e b l g d (blk (E0 g) (C0 g) g f) t r' e4 hH hE n1 hd d1 (by simp only [List.length_append,List.length_cons];omega)
    (fun hB r0 hr0=>blk_back g b ihb f d r0 hb n2 hr0 (by have:=hbl.1 hB;omega) hd (d2 (Or.inl hB)))
    (fun hL r0 hr0=>blk_back g l ihl f d r0 hl n3 hr0 (by have:=hbl.2 hL hH;omega) hd (d3 hL))
   have hr:=ihr f d (g' - 1) (acc.app (.cons h e b l .nil)) acc' rest h2 n4 (by simp only [List.length_append,List.length_cons];omega) (by simp only [List.length_append,List.length_cons];omega) (by omega) hd d4
   obtain ⟨g',rfl⟩:∃x,g'=x+1:=⟨g' - 1,by omega⟩
   rw [Nat.add_sub_cancel] at hr
   have hu:u.x≠[125]:=by
    rcases e2 with ⟨n,rfl,hn⟩ | e2
    ·obtain ⟨c,r'',e3,hc⟩:=L.nm n hn
     intro e4
     simp only [tN] at e4
     rw [e3] at e4
     cases e4
     revert hc;decide
    ·exact e2.2
   rw [e1,List.cons_append] at hs
   rw [List.append_assoc,e3,e1,List.cons_append,sts,if_neg hu,hs.1,bd_ok,←e3,hr,Sts.app_assoc]
   rfl
end
end Pz
end
section
namespace Pz
open Lx Te
def tyW (t:Int):Bs:=if t=1 then [105,110,116] else if t=2 then [102,108,111,97,116] else [98,111,111,108]
def kTy (t:Int):List Tok:=if t=0 then [] else [tM [58],tW (tyW t)]
def kP1 (p:Pa):List Tok:=tN p.name::kTy p.type
def kPa:List Pa→List Tok
 | []=>[]
 | p::r=>kP1 p++r.flatMap (fun q=>tM [44]::kP1 q)
def kEx (b:Bool):List Tok:=if b then [tW [101,120,112,111,114,116]] else []
section
variable (tx:Int→Int→Bs)
def kHo (d:De):List Tok:=tN d.name::(kTy d.type++tM [61]::(kF tx d.e++[tM [59]]))
def kFn (d:De):List Tok:=tN d.name::tM [40]::(kPa d.params++tM [41]::(kTy d.type++tM [123]::(kSt tx d.body++[tM [125]])))
def kDe (d:De):List Tok :=
 if d.kind=1 then kEx d.ex++tW [99,111,110,115,116]::kHo tx d
 else if d.kind=2 then tW [118,97,114]::kHo tx d
 else kEx d.ex++tW [102,110]::kFn tx d
def kIm (x:Bs):List Tok:=[tW [105,109,112,111,114,116],tN x,tM [59]]
def kMo (m:Mo):List Tok:=tW [109,111,100,117,108,101]::tN m.name::tM [59]::(m.imports.flatMap kIm++m.decls.flatMap (kDe tx))
end
def NnD (d:De):Prop:=NnX d.e∧NnS d.body
theorem isTy_c {t:Int} (h:isTy t=true):t=1∨t=2∨t=3:=by
 simpa [isTy,or_assoc] using h
theorem typ_ok {t:Int} (h:isTy t=true) (rest:List Tok):∃r,kTy t++rest=tM [58]::r∧typ r=some (.ok t rest):=by
 rcases isTy_c h with rfl | rfl | rfl
 ·exact ⟨_,rfl,rfl⟩
 ·exact ⟨_,rfl,rfl⟩
 ·exact ⟨_,rfl,rfl⟩
theorem par1_ok (p:Pa) (h:isTy p.type=true) (rest:List Tok):par1 false (kP1 p++rest)=some (.ok p rest):=by
 obtain ⟨r,e1,e2⟩:=typ_ok h rest
 rw [kP1,List.cons_append,e1,par1,name_y,bd_ok,must_y (by rfl),bd_ok,e2,bd_ok]
theorem rwP_ok:∀(ps:List Pa) (g:Nat) (acc:List Pa) (rest:List Tok),(∀p∈ps,isTy p.type=true)→acc.length+ps.length≤8→ps.length<g→rwP g acc (ps.flatMap (fun q=>tM [44]::kP1 q)++tM [41]::rest)=some (.ok (acc++ps) (tM [41]::rest))
 | [],g,acc,rest,_,_,hg=>by
   obtain ⟨g,rfl⟩:∃x,g=x+1:=⟨g - 1,by simp at hg;omega⟩
   rw [List.flatMap_nil,List.nil_append,rwP,if_neg (by decide),List.append_nil]
 | p::ps,g,acc,rest,hp,hl,hg=>by
   obtain ⟨g,rfl⟩:∃x,g=x+1:=⟨g - 1,by simp at hg;omega⟩
   simp only [List.length_cons] at hl hg
   have hf:(acc.length == 8)=false:=by simp;omega
   rw [List.flatMap_cons,List.append_assoc,List.cons_append,rwP,if_pos (by rfl),hf,par1_ok p (hp p (by simp)),bd_ok,rwP_ok ps g (acc++[p]) rest (fun q hq=>hp q (by simp [hq])) (by simp only [List.length_append,List.length_cons,List.length_nil];omega) (by omega)]
   simp
section
variable {rn:Bs→Int} {cn:Int→Int} {tx:Int→Int→Bs} (L:Law rn cn tx) (hEl:∀x,rn x=0→x≠[101,108,115,101])
theorem errP_of:∀(ps:List Pa),errP rn ps=0→∀p∈ps,rn p.name=0∧isTy p.type=true
 | [],_,p,hp=>by simp at hp
 | q::ps,h,p,hp=>by
   rw [errP] at h
   obtain ⟨h1,h2⟩:=orE_0 h
   obtain ⟨h3,h4⟩:=orE_0 h1
   rcases List.mem_cons.1 hp with rfl | hp
   ·refine ⟨h3,?_⟩
    by_cases e:isTy p.type=true
    ·exact e
    ·rw [if_neg e] at h4;omega
   ·exact errP_of ps h2 p hp
include L
theorem params_ok (ps:List Pa) (hp:∀p∈ps,rn p.name=0∧isTy p.type=true) (hl:ps.length≤8) (g:Nat) (hg:ps.length<g) (rest:List Tok):params g (kPa ps++tM [41]::rest)=some (.ok ps (tM [41]::rest)):=by
 cases ps with
 | nil=>rfl
 | cons p r =>
   obtain ⟨h1,h2⟩:=hp p (by simp)
   have hn:=(nm_no L h1).2.2
   have hb:=par1_ok p h2 (r.flatMap (fun q=>tM [44]::kP1 q)++tM [41]::rest)
   rw [kPa,List.append_assoc]
   rw [kP1,List.cons_append] at hb ⊢
   simp only [List.length_cons] at hl hg
   rw [params,if_neg (by simpa [tN] using hn),hb,bd_ok,rwP_ok r g [p] rest (fun q hq=>(hp q (by simp [hq])).2) (by simp only [List.length_cons,List.length_nil];omega) (by omega)]
   rfl
theorem holder_ok (d:De) (kind:Int) (hk:d.kind=kind) (hp:d.params=[]) (hb:d.body = .nil) (h1:isTy d.type=true) (h2:d.e.len=1) (hE:errL rn cn d.e=0) (hN:NnX d.e) (hD:dL d.e 0 0≤32) (g:Nat) (rest:List Tok) (hg:(kHo tx d++rest).length<g) :
 holder (E0 g) kind d.ex (kHo tx d++rest)=some (.ok d rest):=by
 obtain ⟨kind',ex,nm,ty,ps,e,body⟩:=d
 simp only at hk hp hb h1 h2 hE hN hD ⊢
 subst hk hp hb
 obtain ⟨x,k,rfl⟩:=one_of h2
 obtain ⟨r,e1,e2⟩:=typ_ok h1 (tM [61]::(kF tx (.cons x k .nil)++tM [59]::rest))
 have hT:kHo tx ⟨kind',ex,nm,ty,[],.cons x k .nil,.nil⟩++rest=tN nm::(kTy ty++tM [61]::(kF tx (.cons x k .nil)++tM [59]::rest)):=by simp [kHo]
 rw [hT] at hg ⊢
 simp only [List.length_cons,List.length_append] at hg
 rw [e1,holder,name_y,bd_ok,must_y (by rfl),bd_ok,e2,bd_ok,must_y (by rfl),bd_ok,lone_back L x k hE hN g 0 _ _ (Or.inl rfl) (by simp only [List.length_cons,List.length_append];omega) (by omega) (by simpa using lone_dep hD),bd_ok,must_y (by rfl),bd_ok]
include hEl
theorem fnc_ok (d:De) (hk:d.kind=3) (he:d.e = .nil) (h1:d.type=0∨isTy d.type=true) (hp:∀p∈d.params,rn p.name=0∧isTy p.type=true) (hl:d.params.length≤8) (hS:errS rn cn d.body=0) (hN:NnS d.body) (hD:dS d.body 1 1≤32) (g:Nat) (rest:List Tok) (hg:(kFn tx d++rest).length<g) :
 fnc (B0 g) g d.ex (kFn tx d++rest)=some (.ok d rest):=by
 obtain ⟨kind',ex,nm,ty,ps,e,body⟩:=d
 simp only at hk he h1 hp hl hS hN hD ⊢
 subst hk he
 have hT:kFn tx ⟨3,ex,nm,ty,ps,.nil,body⟩++rest=tN nm::tM [40]::(kPa ps++tM [41]::(kTy ty++tM [123]::(kSt tx body++tM [125]::rest))):=by simp [kFn]
 rw [hT] at hg ⊢
 simp only [List.length_cons,List.length_append] at hg
 have hpl:ps.length≤(kPa ps).length:=by
  cases ps with
  | nil=>simp
  | cons p r =>
    have:r.length≤(r.flatMap (fun q=>tM [44]::kP1 q)).length:=by
     clear hp hl hT hg
     induction r with
     | nil=>simp
     | cons q r ih=>simp only [List.flatMap_cons,List.length_append,List.length_cons];omega
    have h1:1≤(kP1 p).length:=by simp [kP1]
    simp only [kPa,List.length_append,List.length_cons]
    omega
 have hres:result (kTy ty++tM [123]::(kSt tx body++tM [125]::rest))=some (.ok ty (tM [123]::(kSt tx body++tM [125]::rest))):=by
  rcases h1 with rfl | h1
  ·rw [kTy,if_pos rfl,List.nil_append,result,has_n (by decide),bd_ok]
   rfl
  ·obtain ⟨r,e1,e2⟩:=typ_ok h1 (tM [123]::(kSt tx body++tM [125]::rest))
   rw [e1,result,has_y (by rfl),bd_ok,if_pos rfl,e2]
 have hb:=blk_back g body (sts_back L hEl g body) g 0 rest hS hN (by simp only [List.length_cons,List.length_append];omega) (by omega) (by omega) (by simpa using hD)
 rw [fnc,name_y,bd_ok,must_y (by rfl),bd_ok,params_ok L ps hp hl g (by omega),bd_ok,must_y (by rfl),bd_ok,hres,bd_ok,B0,hb,bd_ok]
end
end Pz
end
section
namespace Pz
open Lx Te
abbrev Al (a b:List Tok):Prop:=a.map Tok.core=b.map Tok.core
def Rl {α:Type} (m m':Ou α):Prop :=
 match m,m' with
 | none,none=>True
 | some (.er _ c),some (.er _ c')=>c=c'
 | some (.ok a ts),some (.ok a' ts')=>a=a'∧Al ts ts'
 | _,_=>False
theorem Rl.bd {α β:Type} {m m':Ou α} {k k':α→List Tok→Ou β} (h:Rl m m') (hk:∀a ts ts',Al ts ts'→Rl (k a ts) (k' a ts')):Rl (bd m k) (bd m' k'):=by
 match m,m',h with
 | none,none,_=>exact trivial
 | some (.er p c),some (.er p' c'),h=>exact h
 | some (.ok a ts),some (.ok a' ts'),⟨e,h⟩=>subst e;exact hk a ts ts' h
theorem Rl.ite {α:Type} {c:Prop} [Decidable c] {a a' b b':Ou α} (h1:Rl a a') (h2:Rl b b'):Rl (if c then a else b) (if c then a' else b'):=by
 split
 ·exact h1
 ·exact h2
theorem Rl.ok {α:Type} (a:α) {ts ts':List Tok} (h:Al ts ts'):Rl (some (.ok a ts)) (some (.ok a ts')):=⟨rfl,h⟩
theorem Rl.er {α:Type} (p p':Nat) (c:Int):Rl (some (.er p c):Ou α) (some (.er p' c)):=rfl
theorem Al.two {a b:List Tok} (h:Al a b):(a=[]∧b=[])∨∃t t' r r',a=t::r∧b=t'::r'∧t.k=t'.k∧t.x=t'.x∧t.ty=t'.ty∧t.b=t'.b∧Al r r':=by
 match a,b,h with
 | [],[],_=>exact Or.inl ⟨rfl,rfl⟩
 | [],_::_,h=>simp [Al] at h
 | _::_,[],h=>simp [Al] at h
 | t::r,t'::r',h =>
   simp only [Al,List.map_cons,List.cons.injEq,Tok.core,Prod.mk.injEq] at h
   exact Or.inr ⟨t,t',r,r',rfl,rfl,h.1.1,h.1.2.1,h.1.2.2.1,h.1.2.2.2,h.2⟩
theorem must_al (s:Bs) (fl:Bool) {a b:List Tok} (h:Al a b):Rl (must s fl a) (must s fl b):=by
 rcases h.two with ⟨rfl,rfl⟩ | ⟨t,t',r,r',rfl,rfl,h1,h2,h3,h4,hr⟩
 ·exact trivial
 ·simp only [must,h2]
  repeat' split
  all_goals first | exact rfl | exact ⟨rfl,hr⟩
theorem has_al (s:Bs) (fl:Bool) {a b:List Tok} (h:Al a b):Rl (has s fl a) (has s fl b):=by
 rcases h.two with ⟨rfl,rfl⟩ | ⟨t,t',r,r',rfl,rfl,h1,h2,h3,h4,hr⟩
 ·exact trivial
 ·simp only [has,h2]
  repeat' split
  all_goals first | exact rfl | exact ⟨rfl,hr⟩ | exact ⟨rfl,h⟩
theorem name_al (fl:Bool) {a b:List Tok} (h:Al a b):Rl (name fl a) (name fl b):=by
 rcases h.two with ⟨rfl,rfl⟩ | ⟨t,t',r,r',rfl,rfl,h1,h2,h3,h4,hr⟩
 ·exact trivial
 ·simp only [name,h1,h2]
  repeat' split
  all_goals first | exact rfl | exact ⟨rfl,hr⟩
theorem opn_al (s:Bs) (fl:Bool) (d:Nat) {a b:List Tok} (h:Al a b):Rl (opn s fl d a) (opn s fl d b):=by
 rcases h.two with ⟨rfl,rfl⟩ | ⟨t,t',r,r',rfl,rfl,h1,h2,h3,h4,hr⟩
 ·exact trivial
 ·simp only [opn,h2]
  repeat' split
  all_goals first | exact rfl | exact ⟨rfl,hr⟩
theorem refr_al (fl:Bool) {a b:List Tok} (h:Al a b):Rl (refr fl a) (refr fl b):=by
 refine (name_al fl h).bd fun n ts ts' h=>(has_al [46] false h).bd fun y ts ts' h=>?_
 split
 ·exact (name_al false h).bd fun m ts ts' h=>⟨rfl,h⟩
 ·exact ⟨rfl,h⟩
def AE (E:Bool→Nat→List Tok→Ou Ex):Prop:=∀fl d a b,Al a b→Rl (E fl d a) (E fl d b)
section
variable {E:Bool→Nat→List Tok→Ou Ex} (hE:AE E)
include hE
theorem ins_al (fl:Bool) (d:Nat) {a b:List Tok} (h:Al a b):Rl (ins E fl d a) (ins E fl d b) :=
 (opn_al [40] fl d h).bd fun _ ts ts' h=>(hE false (d+1) ts ts' h).bd fun e ts ts' h=>(must_al [41] false h).bd fun _ ts ts' h=>⟨rfl,h⟩
theorem rwE_al (d:Nat):∀(g:Nat) (acc:Exs) (a b:List Tok),Al a b→Rl (rwE E d g acc a) (rwE E d g acc b):=by
 intro g
 induction g with
 | zero=>intro acc a b h;simp only [rwE];exact trivial
 | succ g ih =>
   intro acc a b h
   rcases h.two with ⟨rfl,rfl⟩ | ⟨t,t',r,r',rfl,rfl,h1,h2,h3,h4,hr⟩
   ·simp only [rwE];exact trivial
   ·simp only [rwE,h2]
    split
    ·exact (hE _ d r r' hr).bd fun e ts ts' h=>ih _ ts ts' h
    ·exact ⟨rfl,h⟩
theorem args_al (g d:Nat) {a b:List Tok} (h:Al a b):Rl (args E g d a) (args E g d b):=by
 rcases h.two with ⟨rfl,rfl⟩ | ⟨t,t',r,r',rfl,rfl,h1,h2,h3,h4,hr⟩
 ·exact trivial
 ·rcases hr.two with ⟨rfl,rfl⟩ | ⟨u,u',r2,r2',rfl,rfl,g1,g2,g3,g4,hr2⟩
  ·simp only [args,h2]
   split
   ·exact trivial
   ·exact rfl
  ·simp only [args,h2,g2]
   split
   ·exact ⟨rfl,hr2⟩
   ·exact (opn_al [40] false d h).bd fun _ ts ts' h=>(hE false (d+1) ts ts' h).bd fun e ts ts' h=>(rwE_al hE (d+1) g _ ts ts' h).bd fun l ts ts' h=>(must_al [41] false h).bd fun _ ts ts' h=>⟨rfl,h⟩
theorem call_al (g d:Nat) (e:Ex) {a b:List Tok} (h:Al a b):Rl (call E g d e a) (call E g d e b) :=
 (args_al hE g d h).bd fun l ts ts' h=>⟨rfl,h⟩
theorem pr_al (g:Nat) (fl:Bool) (d:Nat) {a b:List Tok} (h:Al a b):Rl (pr E g fl d a) (pr E g fl d b):=by
 rcases h.two with ⟨rfl,rfl⟩ | ⟨t,t',r,r',rfl,rfl,h1,h2,h3,h4,hr⟩
 ·exact trivial
 ·simp only [pr,h1,h2,h3,h4]
  repeat' refine Rl.ite ?_ ?_
  all_goals first
   | exact rfl
   | exact ⟨rfl,hr⟩
   | exact (ins_al hE false d hr).bd fun e ts ts' h=>⟨rfl,h⟩
   | exact ins_al hE fl d h
   | (refine (refr_al fl h).bd fun e ts ts' h=>?_
      rcases h.two with ⟨rfl,rfl⟩ | ⟨u,u',r2,r2',rfl,rfl,g1,g2,g3,g4,hr2⟩
      ·exact trivial
      ·simp only [g2]
       split
       ·exact call_al hE g d e h
       ·exact ⟨rfl,h⟩)
theorem un_al (g:Nat):∀(f:Nat) (fl:Bool) (d:Nat) (a b:List Tok),Al a b→Rl (un E g f fl d a) (un E g f fl d b):=by
 intro f
 induction f with
 | zero=>intro fl d a b h;simp only [un];exact trivial
 | succ f ih =>
   intro fl d a b h
   rcases h.two with ⟨rfl,rfl⟩ | ⟨t,t',r,r',rfl,rfl,h1,h2,h3,h4,hr⟩
   ·simp only [un];exact trivial
   ·simp only [un,h2]
    split
    ·exact (opn_al [45] fl d h).bd fun _ ts ts' h=>(ih false (d+1) ts ts' h).bd fun e ts ts' h=>⟨rfl,h⟩
    ·split
     ·exact (opn_al [33] fl d h).bd fun _ ts ts' h=>(ih false (d+1) ts ts' h).bd fun e ts ts' h=>⟨rfl,h⟩
     ·exact pr_al hE g fl d h
end
theorem lp_al (N:List Tok→Ou Ex) (lv:Nat) (hN:∀a b,Al a b→Rl (N a) (N b)):∀(f:Nat) (e:Ex) (a b:List Tok),Al a b→Rl (lp N lv f e a) (lp N lv f e b):=by
 intro f
 induction f with
 | zero=>intro e a b h;simp only [lp];exact trivial
 | succ f ih =>
   intro e a b h
   rcases h.two with ⟨rfl,rfl⟩ | ⟨t,t',r,r',rfl,rfl,h1,h2,h3,h4,hr⟩
   ·simp only [lp];exact trivial
   ·simp only [lp,h2]
    split
    ·exact ⟨rfl,h⟩
    ·refine (hN r r' hr).bd fun e2 ts ts' h=>?_
     split
     ·exact ⟨rfl,h⟩
     ·exact ih _ ts ts' h
theorem two_al {E:Bool→Nat→List Tok→Ou Ex} (hE:AE E) (g:Nat):∀(m:Nat) (fl:Bool) (d:Nat) (a b:List Tok),Al a b→Rl (two E g m fl d a) (two E g m fl d b):=by
 intro m
 induction m with
 | zero=>intro fl d a b h;simp only [two];exact un_al hE g g fl d a b h
 | succ m ih=>intro fl d a b h;simp only [two];exact (ih fl d a b h).bd fun e ts ts' h=>lp_al _ _ (fun a b h=>ih false d a b h) g e ts ts' h
theorem expr_al:∀(f:Nat),AE (expr f):=by
 intro f
 induction f with
 | zero=>intro fl d a b h;exact trivial
 | succ f ih=>intro fl d a b h;simp only [expr];exact two_al ih (f+1) 5 fl d a b h
section
variable {E:Nat→List Tok→Ou Ex} (hE:∀d a b,Al a b→Rl (E d a) (E d b))
theorem ended_al (kind:Int) (nm:Bs) (e:Exs) {a b:List Tok} (h:Al a b):Rl (ended kind nm e a) (ended kind nm e b):=(must_al [59] false h).bd fun _ ts ts' h=>⟨rfl,h⟩
include hE
theorem lone_al (d:Nat) {a b:List Tok} (h:Al a b):Rl (lone E d a) (lone E d b):=(hE d a b h).bd fun e ts ts' h=>⟨rfl,h⟩
theorem asg_al (d:Nat) (kind:Int) (nm:Bs) {a b:List Tok} (h:Al a b):Rl (asg E d kind nm a) (asg E d kind nm b) :=
 (must_al [61] false h).bd fun _ ts ts' h=>(lone_al hE d h).bd fun e ts ts' h=>ended_al kind nm e h
theorem returned_al (d:Nat) {a b:List Tok} (h:Al a b):Rl (returned E d a) (returned E d b):=by
 rcases h.two with ⟨rfl,rfl⟩ | ⟨t,t',r,r',rfl,rfl,h1,h2,h3,h4,hr⟩
 ·exact trivial
 ·simp only [returned,h2]
  split
  ·exact ended_al 5 [] .nil h
  ·exact (lone_al hE d h).bd fun e ts ts' h=>ended_al 5 [] e h
variable {C:Nat→Ex→List Tok→Ou Ex} (hC:∀d e a b,Al a b→Rl (C d e a) (C d e b))
include hC in
theorem named_al (d:Nat) {a b:List Tok} (h:Al a b):Rl (named E C d a) (named E C d b):=by
 refine (refr_al false h).bd fun e ts ts' h=>?_
 rcases h.two with ⟨rfl,rfl⟩ | ⟨t,t',r,r',rfl,rfl,h1,h2,h3,h4,hr⟩
 ·exact trivial
 ·simp only [h2]
  split
  ·exact asg_al hE d 2 e.1.name h
  ·exact (hC d e _ _ h).bd fun c ts ts' h=>ended_al 9 [] _ h
variable {B:Nat→List Tok→Ou Sts} (hB:∀d a b,Al a b→Rl (B d a) (B d b))
include hB in
theorem branch_al (d:Nat) {a b:List Tok} (h:Al a b):Rl (branch E B d a) (branch E B d b):=by
 refine (lone_al hE d h).bd fun e ts ts' h=>(hB d ts ts' h).bd fun x ts ts' h=>(has_al _ false h).bd fun y ts ts' h=>?_
 split
 ·exact (hB d ts ts' h).bd fun l ts ts' h=>⟨rfl,h⟩
 ·exact ⟨rfl,h⟩
include hB in
theorem while_al (d:Nat) {a b:List Tok} (h:Al a b):Rl (while_ E B d a) (while_ E B d b) :=
 (lone_al hE d h).bd fun e ts ts' h=>(hB d ts ts' h).bd fun x ts ts' h=>⟨rfl,h⟩
include hB in
omit hE in
theorem tried_al (d:Nat) {a b:List Tok} (h:Al a b):Rl (tried B d a) (tried B d b) :=
 (hB d a b h).bd fun x ts ts' h=>(must_al _ false h).bd fun _ ts ts' h=>(name_al false h).bd fun n ts ts' h=>(hB d ts ts' h).bd fun l ts ts' h=>⟨rfl,h⟩
include hC hB in
theorem stm_al (d:Nat) {a b:List Tok} (h:Al a b):Rl (stm E C B d a) (stm E C B d b):=by
 rcases h.two with ⟨rfl,rfl⟩ | ⟨t,t',r,r',rfl,rfl,h1,h2,h3,h4,hr⟩
 ·exact trivial
 ·simp only [stm,h1,h2]
  repeat' split
  ·exact named_al hE hC d h
  ·exact (name_al false hr).bd fun n ts ts' h=>asg_al hE d 1 n h
  ·exact branch_al hE hB d hr
  ·exact while_al hE hB d hr
  ·exact returned_al hE d hr
  ·exact (lone_al hE d hr).bd fun e ts ts' h=>ended_al 6 [] e h
  ·exact (lone_al hE d hr).bd fun e ts ts' h=>ended_al 7 [] e h
  ·exact tried_al hB d hr
  ·exact rfl
end
theorem sts_al (S:List Tok→Ou St) (hS:∀a b,Al a b→Rl (S a) (S b)):∀(g:Nat) (acc:Sts) (a b:List Tok),Al a b→Rl (sts S g acc a) (sts S g acc b):=by
 intro g
 induction g with
 | zero=>intro acc a b h;simp only [sts];exact trivial
 | succ g ih =>
   intro acc a b h
   rcases h.two with ⟨rfl,rfl⟩ | ⟨t,t',r,r',rfl,rfl,h1,h2,h3,h4,hr⟩
   ·simp only [sts];exact trivial
   ·simp only [sts,h2]
    split
    ·exact ⟨rfl,h⟩
    ·exact (hS _ _ h).bd fun s ts ts' h=>ih _ ts ts' h
theorem blk_al {E:Nat→List Tok→Ou Ex} {C:Nat→Ex→List Tok→Ou Ex} (g:Nat) (hE:∀d a b,Al a b→Rl (E d a) (E d b)) (hC:∀d e a b,Al a b→Rl (C d e a) (C d e b)):∀(f:Nat) (d:Nat) (a b:List Tok),Al a b→Rl (blk E C g f d a) (blk E C g f d b):=by
 intro f
 induction f with
 | zero=>intro d a b h;simp only [blk];exact trivial
 | succ f ih =>
   intro d a b h
   simp only [blk]
   exact (opn_al _ false d h).bd fun _ ts ts' h=>(sts_al _ (fun a b h=>stm_al hE hC ih (d+1) h) g .nil ts ts' h).bd fun l ts ts' h=>(must_al _ false h).bd fun _ ts ts' h=>⟨rfl,h⟩
theorem typ_al {a b:List Tok} (h:Al a b):Rl (typ a) (typ b):=by
 rcases h.two with ⟨rfl,rfl⟩ | ⟨t,t',r,r',rfl,rfl,h1,h2,h3,h4,hr⟩
 ·exact trivial
 ·simp only [typ,h2]
  repeat' split
  all_goals first | exact rfl | exact ⟨rfl,hr⟩
theorem par1_al (fl:Bool) {a b:List Tok} (h:Al a b):Rl (par1 fl a) (par1 fl b) :=
 (name_al fl h).bd fun n ts ts' h=>(must_al [58] false h).bd fun _ ts ts' h=>(typ_al h).bd fun t ts ts' h=>⟨rfl,h⟩
theorem rwP_al:∀(g:Nat) (acc:List Pa) (a b:List Tok),Al a b→Rl (rwP g acc a) (rwP g acc b):=by
 intro g
 induction g with
 | zero=>intro acc a b h;simp only [rwP];exact trivial
 | succ g ih =>
   intro acc a b h
   rcases h.two with ⟨rfl,rfl⟩ | ⟨t,t',r,r',rfl,rfl,h1,h2,h3,h4,hr⟩
   ·simp only [rwP];exact trivial
   ·simp only [rwP,h2]
    split
    ·exact (par1_al _ hr).bd fun e ts ts' h=>ih _ ts ts' h
    ·exact ⟨rfl,h⟩
theorem params_al (g:Nat) {a b:List Tok} (h:Al a b):Rl (params g a) (params g b):=by
 rcases h.two with ⟨rfl,rfl⟩ | ⟨t,t',r,r',rfl,rfl,h1,h2,h3,h4,hr⟩
 ·exact trivial
 ·simp only [params,h2]
  split
  ·exact ⟨rfl,h⟩
  ·exact (par1_al false h).bd fun p ts ts' h=>rwP_al g [p] ts ts' h
theorem result_al {a b:List Tok} (h:Al a b):Rl (result a) (result b):=by
 refine (has_al [58] false h).bd fun y ts ts' h=>?_
 split
 ·exact typ_al h
 ·exact ⟨rfl,h⟩
section
variable {E:Nat→List Tok→Ou Ex} (hE:∀d a b,Al a b→Rl (E d a) (E d b))
variable {B:Nat→List Tok→Ou Sts} (hB:∀d a b,Al a b→Rl (B d a) (B d b)) (g:Nat)
include hE in
theorem holder_al (kind:Int) (ex:Bool) {a b:List Tok} (h:Al a b):Rl (holder E kind ex a) (holder E kind ex b) :=
 (name_al false h).bd fun n ts ts' h=>(must_al [58] false h).bd fun _ ts ts' h=>(typ_al h).bd fun t ts ts' h=>(must_al [61] false h).bd fun _ ts ts' h=>(lone_al hE 0 h).bd fun e ts ts' h=>(must_al [59] false h).bd fun _ ts ts' h=>⟨rfl,h⟩
include hB in
theorem fnc_al (ex:Bool) {a b:List Tok} (h:Al a b):Rl (fnc B g ex a) (fnc B g ex b) :=
 (name_al false h).bd fun n ts ts' h=>(must_al [40] false h).bd fun _ ts ts' h=>(params_al g h).bd fun ps ts ts' h=>(must_al [41] false h).bd fun _ ts ts' h=>(result_al h).bd fun t ts ts' h=>(hB 0 ts ts' h).bd fun x ts ts' h=>⟨rfl,h⟩
include hE hB
theorem dcl2_al (ex fl:Bool) {a b:List Tok} (h:Al a b):Rl (dcl2 E B g ex fl a) (dcl2 E B g ex fl b):=by
 rcases h.two with ⟨rfl,rfl⟩ | ⟨t,t',r,r',rfl,rfl,h1,h2,h3,h4,hr⟩
 ·exact trivial
 ·simp only [dcl2,h2]
  repeat' split
  all_goals first | exact rfl | exact holder_al hE _ ex hr | exact fnc_al hB g ex hr
theorem dcl_al (fl:Bool) {a b:List Tok} (h:Al a b):Rl (dcl E B g fl a) (dcl E B g fl b):=by
 rcases h.two with ⟨rfl,rfl⟩ | ⟨t,t',r,r',rfl,rfl,h1,h2,h3,h4,hr⟩
 ·exact trivial
 ·simp only [dcl,h2]
  repeat' split
  all_goals first | exact rfl | exact dcl2_al hE hB g true false hr | exact dcl2_al hE hB g false fl h
theorem dcls_al:∀(f:Nat) (acc:List De) (a b:List Tok),Al a b→Rl (dcls E B g f acc a) (dcls E B g f acc b):=by
 intro f
 induction f with
 | zero=>intro acc a b h;simp only [dcls];exact trivial
 | succ f ih =>
   intro acc a b h
   rcases h.two with ⟨rfl,rfl⟩ | ⟨t,t',r,r',rfl,rfl,h1,h2,h3,h4,hr⟩
   ·simp only [dcls];exact trivial
   ·rcases hr.two with ⟨rfl,rfl⟩ | ⟨u,u',r2,r2',rfl,rfl,_⟩
    ·simp only [dcls];exact ⟨rfl,h⟩
    ·simp only [dcls]
     exact (dcl_al hE hB g _ h).bd fun d ts ts' h=>ih _ ts ts' h
end
theorem imp1_al (fl:Bool) {a b:List Tok} (h:Al a b):Rl (imp1 fl a) (imp1 fl b) :=
 (must_al _ fl h).bd fun _ ts ts' h=>(name_al false h).bd fun n ts ts' h=>(must_al [59] false h).bd fun _ ts ts' h=>⟨rfl,h⟩
theorem imps_al:∀(f:Nat) (acc:List Bs) (a b:List Tok),Al a b→Rl (imps f acc a) (imps f acc b):=by
 intro f
 induction f with
 | zero=>intro acc a b h;simp only [imps];exact trivial
 | succ f ih =>
   intro acc a b h
   rcases h.two with ⟨rfl,rfl⟩ | ⟨t,t',r,r',rfl,rfl,h1,h2,h3,h4,hr⟩
   ·simp only [imps];exact trivial
   ·simp only [imps,h2]
    split
    ·exact (imp1_al _ h).bd fun n ts ts' h=>ih _ ts ts' h
    ·exact ⟨rfl,h⟩
theorem mdl_al (g:Nat) {a b:List Tok} (h:Al a b):Rl (mdl g a) (mdl g b) :=
 (must_al _ false h).bd fun _ ts ts' h=>(name_al false h).bd fun n ts ts' h=>(must_al [59] false h).bd fun _ ts ts' h=>(imps_al g [] ts ts' h).bd fun is ts ts' h =>
   (dcls_al (fun d a b h=>expr_al g false d a b h) (fun d a b h=>blk_al g (fun d a b h=>expr_al g false d a b h) (fun d e a b h=>call_al (expr_al g) g d e h) g d a b h) g g [] ts ts' h).bd fun ds ts ts' h=>⟨rfl,h⟩
theorem parT_al {a b:List Tok} (h:Al a b) (n n':Nat) (m:Option Mo) (p:Nat) (c:Int) (hm:parT a n=some (m,p,c)):∃p',parT b n'=some (m,p',c):=by
 have hl:a.length=b.length:=by have:=congrArg List.length h;simpa using this
 have h1:Al (a++[endT n]) (b++[endT n']):=by
  simp only [Al,List.map_append,List.map_cons,List.map_nil,Tok.core,endT]
  rw [show a.map Tok.core=b.map Tok.core from h]
 have h2:=mdl_al (a.length+2) h1
 unfold parT at hm ⊢
 rw [←hl]
 generalize mdl (a.length+2) (a++[endT n])=x at h2 hm
 generalize mdl (a.length+2) (b++[endT n'])=y at h2
 match x,y,h2 with
 | none,none,_=>simp [whole] at hm
 | some (.er q c1),some (.er q' c2),h=>cases h;simp only [whole,Option.some.injEq,Prod.mk.injEq] at hm ⊢;exact ⟨q',hm.1,rfl,hm.2.2⟩
 | some (.ok e ts),some (.ok e' ts'),⟨h1,h2⟩ =>
   subst h1
   rcases h2.two with ⟨rfl,rfl⟩ | ⟨t,t',r,r',rfl,rfl,g1,g2,g3,g4,hr⟩
   ·simp [whole] at hm
   ·rcases hr.two with ⟨rfl,rfl⟩ | ⟨u,u',r2,r2',rfl,rfl,_⟩
    ·simp only [whole,Option.some.injEq,Prod.mk.injEq] at hm ⊢;exact ⟨0,hm.1,rfl,hm.2.2⟩
    ·simp only [whole,Option.some.injEq,Prod.mk.injEq] at hm ⊢;exact ⟨t'.p,hm.1,rfl,hm.2.2⟩
end Pz
end
section
namespace Pz
open Lx Te
section
variable {rn:Bs→Int} {cn:Int→Int} {tx:Int→Int→Bs} (L:Law rn cn tx) (hEl:∀x,rn x=0→x≠[101,108,115,101])
theorem errD_of {d:De} (h:errD rn cn d=0):dD d≤32∧fitsD d=true∧rn d.name=0∧d.params.length≤8∧errP rn d.params=0∧errL rn cn d.e=0∧errS rn cn d.body=0:=by
 unfold errD at h
 obtain ⟨h1,h⟩:=orE_0 h
 obtain ⟨h2,h⟩:=orE_0 h
 obtain ⟨h3,h⟩:=orE_0 h
 obtain ⟨h4,h⟩:=orE_0 h
 obtain ⟨h5,h⟩:=orE_0 h
 obtain ⟨h6,h7⟩:=orE_0 h
 refine ⟨?_,?_,h3,?_,h5,h6,h7⟩
 ·by_cases e:32<dD d
  ·rw [if_pos e] at h1;omega
  ·omega
 ·by_cases e:fitsD d=true
  ·exact e
  ·rw [if_neg e] at h2;omega
 ·by_cases e:8<d.params.length
  ·rw [if_pos e] at h4;omega
  ·omega
theorem dD_of {d:De} (h:dD d≤32):dL d.e 0 0≤32∧(d.kind=3→dS d.body 1 1≤32):=by
 unfold dD at h
 refine ⟨?_,?_⟩
 ·split at h<;>omega
 ·intro e
  rw [if_pos (Or.inl e)] at h
  omega
include L hEl
theorem dcl_ok (d:De) (he:errD rn cn d=0) (hN:NnD d) (g:Nat) (rest:List Tok) (hg:(kDe tx d++rest).length<g):dcl (E0 g) (B0 g) g false (kDe tx d++rest)=some (.ok d rest):=by
 obtain ⟨h1,h2,h3,h4,h5,h6,h7⟩:=errD_of he
 obtain ⟨d1,d2⟩:=dD_of h1
 have hK:d.kind=1∨d.kind=2∨d.kind=3:=by
  unfold fitsD at h2
  repeat' split at h2
  all_goals first | omega | cases h2
 rcases hK with e | e | e
 ·simp [fitsD,e] at h2
  obtain ⟨t1,t2,t3,t4⟩:=h2
  have hh:=holder_ok L d 1 e (by simpa using t3) (len0S t4) t1 t2 h6 hN.1 d1 g rest
  rw [kDe,if_pos e] at hg ⊢
  cases hx:d.ex with
  | true =>
    rw [hx] at hh hg
    simp only [kEx,if_true,List.cons_append,List.nil_append,List.length_cons] at hg ⊢
    rw [dcl,if_pos (by rfl),if_neg (by decide),dcl2,if_pos (by rfl),if_neg (by decide),hh (by omega)]
  | false =>
    rw [hx] at hh hg
    simp only [kEx,Bool.false_eq_true,if_false,List.cons_append,List.nil_append,List.length_cons] at hg ⊢
    rw [dcl,if_neg (by decide),dcl2,if_pos (by rfl),if_neg (by decide),hh (by omega)]
 ·simp [fitsD,e] at h2
  obtain ⟨⟨t0,t1⟩,t2,t3,t4⟩:=h2
  have hh:=holder_ok L d 2 e (by simpa using t3) (len0S t4) t1 t2 h6 hN.1 d1 g rest
  rw [kDe,if_neg (by omega),if_pos e] at hg ⊢
  rw [t0] at hh
  simp only [List.cons_append,List.length_cons] at hg ⊢
  rw [dcl,if_neg (by decide),dcl2,if_neg (by decide),if_pos ⟨rfl,by rfl⟩,if_neg (by decide),hh (by omega)]
 ·simp [fitsD,e] at h2
  obtain ⟨t1,t2⟩:=h2
  have hh:=fnc_ok L hEl d e (len0 t2) t1 (errP_of d.params h5) h4 h7 hN.2 (d2 e) g rest
  rw [kDe,if_neg (by omega),if_neg (by omega)] at hg ⊢
  cases hx:d.ex with
  | true =>
    rw [hx] at hh hg
    simp only [kEx,if_true,List.cons_append,List.nil_append,List.length_cons] at hg ⊢
    rw [dcl,if_pos (by rfl),if_neg (by decide),dcl2,if_neg (by decide),if_neg (by rintro ⟨h,_⟩;cases h),if_pos (by rfl),if_neg (by decide),hh (by omega)]
  | false =>
    rw [hx] at hh hg
    simp only [kEx,Bool.false_eq_true,if_false,List.cons_append,List.nil_append,List.length_cons] at hg ⊢
    rw [dcl,if_neg (by decide),dcl2,if_neg (by decide),if_neg (by rintro ⟨_,h⟩;revert h;decide),if_pos (by rfl),if_neg (by decide),hh (by omega)]
omit L hEl in
theorem kDe_head (d:De):∃a b r,kDe tx d=a::b::r∧a.x≠[105,109,112,111,114,116]:=by
 unfold kDe
 by_cases e:d.kind=1
 ·rw [if_pos e]
  cases d.ex
  ·exact ⟨_,_,_,rfl,by decide⟩
  ·exact ⟨_,_,_,rfl,by decide⟩
 ·rw [if_neg e]
  by_cases e2:d.kind=2
  ·rw [if_pos e2]
   exact ⟨_,_,_,rfl,by decide⟩
  ·rw [if_neg e2]
   cases d.ex
   ·exact ⟨_,_,_,rfl,by decide⟩
   ·exact ⟨_,_,_,rfl,by decide⟩
theorem dcls_ok:∀(ds:List De) (g f:Nat) (acc:List De) (t:Tok),errDs rn cn ds=0→(∀d∈ds,NnD d)→acc.length+ds.length≤64→ds.length<f→(ds.flatMap (kDe tx)++[t]).length<g→dcls (E0 g) (B0 g) g f acc (ds.flatMap (kDe tx)++[t])=some (.ok (acc++ds) [t])
 | [],g,f,acc,t,_,_,_,hf,_=>by
   obtain ⟨f,rfl⟩:∃x,f=x+1:=⟨f - 1,by simp at hf;omega⟩
   rw [List.flatMap_nil,List.nil_append,dcls,List.append_nil]
 | d::ds,g,f,acc,t,he,hN,hl,hf,hg=>by
   obtain ⟨f,rfl⟩:∃x,f=x+1:=⟨f - 1,by simp at hf;omega⟩
   rw [errDs] at he
   obtain ⟨h1,h2⟩:=orE_0 he
   simp only [List.length_cons] at hl hf
   have hfl:(acc.length == 64)=false:=by simp;omega
   rw [List.flatMap_cons,List.append_assoc] at hg ⊢
   have hd:=dcl_ok L hEl d h1 (hN d (by simp)) g (ds.flatMap (kDe tx)++[t]) hg
   have hr:=dcls_ok ds g f (acc++[d]) t h2 (fun x hx=>hN x (by simp [hx])) (by simp only [List.length_append,List.length_cons,List.length_nil];omega) (by omega) (by simp only [List.length_append,List.length_cons] at hg ⊢;omega)
   obtain ⟨a,b,r,e,_⟩:=kDe_head (tx:=tx) d
   rw [e,List.cons_append,List.cons_append] at hd ⊢
   rw [dcls,hfl,hd,bd_ok,hr]
   simp
omit L hEl in
theorem imps_ok:∀(is:List Bs) (f:Nat) (acc:List Bs) (t:Tok) (rest:List Tok),t.x≠[105,109,112,111,114,116]→acc.length+is.length≤16→is.length<f→imps f acc (is.flatMap kIm++t::rest)=some (.ok (acc++is) (t::rest))
 | [],f,acc,t,rest,ht,_,hf=>by
   obtain ⟨f,rfl⟩:∃x,f=x+1:=⟨f - 1,by simp at hf;omega⟩
   rw [List.flatMap_nil,List.nil_append,imps,if_neg ht,List.append_nil]
 | x::is,f,acc,t,rest,ht,hl,hf=>by
   obtain ⟨f,rfl⟩:∃x,f=x+1:=⟨f - 1,by simp at hf;omega⟩
   simp only [List.length_cons] at hl hf
   have hfl:(acc.length == 16)=false:=by simp;omega
   have hr:=imps_ok is f (acc++[x]) t rest ht (by simp only [List.length_append,List.length_cons,List.length_nil];omega) (by omega)
   rw [List.flatMap_cons,List.append_assoc,kIm,List.cons_append,List.cons_append,List.cons_append,List.nil_append,imps,if_pos (by rfl),hfl,imp1,must_y (by rfl),bd_ok,name_y,bd_ok,must_y (by rfl),bd_ok,bd_ok,hr]
   simp
theorem mdl_back (m:Mo) (he:errM rn cn m=0) (hN:∀d∈m.decls,NnD d) (n g:Nat) (hg:(kMo tx m).length+1<g):mdl g (kMo tx m++[endT n])=some (.ok m [endT n]):=by
 unfold errM at he
 obtain ⟨h1,he⟩:=orE_0 he
 obtain ⟨h2,he⟩:=orE_0 he
 obtain ⟨h3,he⟩:=orE_0 he
 obtain ⟨h4,h5⟩:=orE_0 he
 have h2:m.imports.length≤16:=by
  by_cases e:16<m.imports.length
  ·rw [if_pos e] at h2;omega
  ·omega
 have h4:m.decls.length≤64:=by
  by_cases e:64<m.decls.length
  ·rw [if_pos e] at h4;omega
  ·omega
 have hT:kMo tx m++[endT n]=tW [109,111,100,117,108,101]::tN m.name::tM [59]::(m.imports.flatMap kIm++(m.decls.flatMap (kDe tx)++[endT n])):=by simp [kMo]
 have hlen:(kMo tx m).length=3+(m.imports.flatMap kIm).length+(m.decls.flatMap (kDe tx)).length:=by simp [kMo];omega
 have hi:m.imports.length≤(m.imports.flatMap kIm).length:=by
  clear h3 h2 hT hlen
  induction m.imports with
  | nil=>simp
  | cons x l ih=>simp only [List.flatMap_cons,List.length_append,List.length_cons,kIm,List.length_nil];omega
 have hdl:m.decls.length≤(m.decls.flatMap (kDe tx)).length:=by
  clear h5 h4 hT hlen hN
  induction m.decls with
  | nil=>simp
  | cons d l ih =>
    obtain ⟨a,b,r,e,_⟩:=kDe_head (tx:=tx) d
    simp only [List.flatMap_cons,List.length_append,List.length_cons,e]
    omega
 have hds:=dcls_ok L hEl m.decls g g [] (endT n) h5 hN (by simpa using h4) (by omega) (by simp only [List.length_append,List.length_cons,List.length_nil];omega)
 obtain ⟨t,r,e1,e2⟩:∃t r,m.decls.flatMap (kDe tx)++[endT n]=t::r∧t.x≠[105,109,112,111,114,116]:=by
  cases m.decls with
  | nil=>exact ⟨endT n,[],rfl,by simp [endT]⟩
  | cons d l =>
    obtain ⟨a,b,r,e,e'⟩:=kDe_head (tx:=tx) d
    exact ⟨a,b::(r++(l.flatMap (kDe tx)++[endT n])),by simp [e],e'⟩
 rw [hT,mdl,must_y (by rfl),bd_ok,name_y,bd_ok,must_y (by rfl),bd_ok,e1,imps_ok m.imports g [] t r e2 (by simpa using h2) (by omega),bd_ok,←e1,hds,bd_ok]
 simp
theorem parT_back (m:Mo) (he:errM rn cn m=0) (hN:∀d∈m.decls,NnD d) (ts:List Tok) (hts:ts.map Tok.core=(kMo tx m).map Tok.core) (n:Nat):parT ts n=some (some m,0,0):=by
 have hlen:ts.length=(kMo tx m).length:=by have:=congrArg List.length hts;simpa using this
 have h0:parT (kMo tx m) n=some (some m,0,0):=by
  unfold parT
  rw [mdl_back L hEl m he hN n _ (by omega)]
  rfl
 obtain ⟨p',h1⟩:=parT_al (show Al (kMo tx m) ts from hts.symm) n n (some m) 0 0 h0
 have hp:p'=0:=by
  unfold parT at h1
  generalize mdl (ts.length+2) (ts++[endT n])=x at h1
  match x,h1 with
  | some (.ok a [t]),h1=>simp only [whole,Option.some.injEq,Prod.mk.injEq] at h1;omega
 rw [h1,hp]
end
end Pz
end
section
namespace Pz
open Lx Te
def Sz {α:Type} (f:α→Nat) (n:Nat):Ou α→Prop
 | some (.ok a ts)=>f a+ts.length≤n
 | _=>True
theorem Sz.ok {α:Type} {f:α→Nat} {n:Nat} {a:α} {ts:List Tok} (h:f a+ts.length≤n):Sz f n (some (.ok a ts)):=h
theorem Sz.bd {α β:Type} {f:α→Nat} {f':β→Nat} {n n':Nat} {m:Ou α} {k:α→List Tok→Ou β} (h:Sz f n m) (hk:∀a ts,f a+ts.length≤n→Sz f' n' (k a ts)):Sz f' n' (bd m k):=by
 rcases m with _ | ⟨a,ts⟩ | ⟨p,c⟩
 ·trivial
 ·exact hk a ts h
 ·trivial
theorem Sz.mono {α:Type} {f f':α→Nat} {n n':Nat} {m:Ou α} (h:Sz f n m) (hk:∀a k,f a+k≤n→f' a+k≤n'):Sz f' n' m:=by
 rcases m with _ | ⟨a,ts⟩ | ⟨p,c⟩
 ·trivial
 ·exact hk a _ h
 ·trivial
def o1 {α:Type} (_:α):Nat:=1
def fE (e:Ex):Nat:=e.2.size+1
section
variable {E:Nat→List Tok→Ou Ex} {B:Nat→List Tok→Ou Sts} (hE:∀d ts,Sz fE ts.length (E d ts)) (hB:∀d ts,Sz Sts.size ts.length (B d ts)) (g:Nat)
def fDs (l:List De):Nat:=(l.map ndD).sum
end
end Pz
end
section
namespace Pz
open Lx Te
open Go.RowKit (wrap64)
section
variable {rn:Bs→Int} {cn:Int→Int} {tx:Int→Int→Bs} (hn:∀x,rn x=0→x.length≤32) (ht:∀vt vb,litOk cn vt vb=true→0≤vb→(tx vt vb).length≤3001)
theorem ifx {c:Prop} [Decidable c] {a:Int} (h:(if c then (0:Int) else a)=0) (ha:a≠0):c:=by
 split at h
 ·assumption
 ·exact absurd h ha
include hn ht in
theorem pre_ln (h:EH) (n:Nat) (h0:0≤h.vb) (he:errH rn cn h n=0):(pre tx h).length≤3100:=by
 unfold errH at he
 obtain ⟨e1,e2⟩:=orE_0 he
 obtain ⟨e2,_⟩:=orE_0 e2
 have hf:=ifx (c:=fitsE cn h n=true) e1 (by decide)
 unfold nameE at e2
 unfold pre
 by_cases k1:h.kind=1
 ·rw [if_pos k1]
  unfold fitsE at hf
  rw [if_pos k1,Bool.and_eq_true] at hf
  have:=ht h.vt h.vb hf.1 h0
  omega
 rw [if_neg k1]
 by_cases k2:h.kind=2
 ·rw [if_pos k2]
  rw [if_pos (Or.inl k2)] at e2
  have:=hn _ e2
  omega
 rw [if_neg k2]
 by_cases k3:h.kind=3
 ·rw [if_pos k3]
  rw [if_neg (by omega),if_pos (Or.inl k3)] at e2
  obtain ⟨a,b⟩:=orE_0 e2
  have:=hn _ a
  have:=hn _ b
  simp only [List.length_append,List.length_cons]
  omega
 rw [if_neg k3]
 by_cases k4:h.kind=4
 ·rw [if_pos k4]
  rw [if_pos (Or.inr k4)] at e2
  have:=hn _ e2
  simp only [List.length_append,List.length_cons,List.length_nil]
  omega
 rw [if_neg k4]
 by_cases k5:h.kind=5
 ·rw [if_pos k5]
  rw [if_neg (by omega),if_pos (Or.inr k5)] at e2
  obtain ⟨a,b⟩:=orE_0 e2
  have:=hn _ a
  have:=hn _ b
  simp only [List.length_append,List.length_cons,List.length_nil]
  omega
 rw [if_neg k5]
 repeat' split
 all_goals simp
theorem post_ln (h:EH):(post h).length≤1:=by
 unfold post
 repeat' split
 all_goals simp
theorem mark_ln (op:Int):(Te.mark op).length≤4:=by
 by_cases h:1≤op∧op≤12
 ·obtain rfl | rfl | rfl | rfl | rfl | rfl | rfl | rfl | rfl | rfl | rfl | rfl:op=1∨op=2∨op=3∨op=4∨op=5∨op=6∨op=7∨op=8∨op=9∨op=10∨op=11∨op=12:=by omega
  all_goals decide
 ·have e:Te.mark op=[32,124,124,32]:=by
   unfold Te.mark
   rw [if_neg (by omega),if_neg (by omega),if_neg (by omega),if_neg (by omega),if_neg (by omega),if_neg (by omega),if_neg (by omega),if_neg (by omega),if_neg (by omega),if_neg (by omega),if_neg (by omega),if_neg (by omega)]
  rw [e]
  decide
theorem sep_ln (h:EH):(sep h).length≤4:=by
 unfold sep
 split
 ·exact mark_ln _
 ·simp
theorem par_ln (b:Bool) (l:Bs):(par b l).length≤l.length+2:=by
 unfold par
 split<;>simp
include hn ht in
theorem txK_ln:∀(k:Exs) (p:EH) (f:Bool),errL rn cn k=0→NnX k→(txK tx p f k).length≤4000*k.size
 | .nil,_,_,_,_=>by simp [txK]
 | .cons h k r,p,f,he,hs=>by
   obtain ⟨hh,hr⟩:=RX_kid he
   have i1:=txK_ln k h true hh.2 hs.2.1
   have i2:=txK_ln r p false hr hs.2.2
   have e1:=pre_ln hn ht h k.len hs.1 hh.1
   have e2:=post_ln h
   have e3:=sep_ln p
   have e4:=par_ln (decide (level h<kidL p f)) (pre tx h++txK tx h true k++post h)
   unfold txK
   simp only [List.length_append,Exs.size] at e4 ⊢
   have e5:(if f then [] else sep p:Bs).length≤4:=by
    split
    ·simp
    ·exact e3
   omega
include hn ht in
theorem txF_ln (k:Exs) (he:errL rn cn k=0) (hs:NnX k):(txF tx k).length≤4000*k.size:=by
 cases k with
 | nil=>simp [txF]
 | cons h k r =>
   obtain ⟨hh,hr⟩:=RX_kid he
   have i1:=txK_ln hn ht k h true hh.2 hs.2.1
   have e1:=pre_ln hn ht h k.len hs.1 hh.1
   have e2:=post_ln h
   simp only [txF,Te.bare,List.length_append,Exs.size]
   omega
theorem pad_ln (n:Nat):(Te.pad n).length=2*n:=by
 unfold Te.pad
 induction n with
 | zero=>rfl
 | succ n ih=>rw [List.replicate_succ,List.flatten_cons,List.length_append,ih];simp;omega
include hn ht in
theorem stT_ln:∀(s:Sts) (n:Nat) (acc:Int),n≤32→errS rn cn s=0→NnS s→dS s (n:Int) acc≤32→(stT tx s n).length≤5000*s.size
 | .nil,_,_,_,_,_,_=>by simp [stT]
 | .cons h e b l r,n,acc,hn2,he,hs,hd=>by
   rw [errS] at he
   obtain ⟨a1,a2⟩:=orE_0 he
   obtain ⟨a3,a4⟩:=orE_0 a1
   obtain ⟨a5,a6⟩:=orE_0 a4
   obtain ⟨a7,a8⟩:=orE_0 a6
   obtain ⟨s1,s2,s3,s4⟩:=hs
   obtain ⟨d1,d2,d3,acc',d4⟩:=dS_cons (by omega) (by omega) hd
   have i0:=stT_ln r n acc' hn2 a2 s4 d4
   have i1:=txF_ln hn ht e a5 s1
   have ib:hasBody h.kind=true∨0<b.len→(stT tx b (n+1)).length≤5000*b.size:=fun hb=>by
    have:=d2 hb
    have:=dS_acc b ((n:Int)+1) ((n:Int)+1)
    exact stT_ln b (n+1) ((n:Int)+1) (by omega) a7 s2 (by simpa using d2 hb)
   have il:h.kind=8∨0<l.len→(stT tx l (n+1)).length≤5000*l.size:=fun hb=>by
    have:=d3 hb
    have:=dS_acc l ((n:Int)+1) ((n:Int)+1)
    exact stT_ln l (n+1) ((n:Int)+1) (by omega) a8 s3 (by simpa using d3 hb)
   have hnm:h.kind=1∨h.kind=2∨h.kind=8→h.name.length≤32:=by
    intro hk
    unfold errSH at a3
    obtain ⟨_,q⟩:=orE_0 a3
    unfold nameS at q
    rw [if_pos (by omega)] at q
    exact hn _ q
   have hp:=pad_ln n
   unfold stT
   simp only [List.length_append,Sts.size]
   by_cases k1:h.kind=1
   ·have:=hnm (by omega)
    simp only [if_pos k1,List.length_append,List.length_cons,List.length_nil]
    omega
   by_cases k2:h.kind=2
   ·have:=hnm (by omega)
    simp only [if_neg k1,if_pos k2,List.length_append,List.length_cons,List.length_nil]
    omega
   by_cases k3:h.kind=3
   ·have:=ib (Or.inl (by rw [k3];rfl))
    simp only [if_neg k1,if_neg k2,if_pos k3,List.length_append,List.length_cons,List.length_nil]
    by_cases hl:0<l.len
    ·have:=il (Or.inr hl)
     simp only [if_pos hl,List.length_append,List.length_cons,List.length_nil]
     omega
    ·simp only [if_neg hl,List.length_nil]
     omega
   by_cases k4:h.kind=4
   ·have:=ib (Or.inl (by rw [k4];rfl))
    simp only [if_neg k1,if_neg k2,if_neg k3,if_pos k4,List.length_append,List.length_cons,List.length_nil]
    omega
   by_cases k5:h.kind=5
   ·simp only [if_neg k1,if_neg k2,if_neg k3,if_neg k4,if_pos k5,List.length_append,List.length_cons,List.length_nil]
    split
    ·simp only [List.length_cons];omega
    ·simp only [List.length_nil];omega
   by_cases k6:h.kind=6
   ·simp only [if_neg k1,if_neg k2,if_neg k3,if_neg k4,if_neg k5,if_pos k6,List.length_append,List.length_cons,List.length_nil]
    omega
   by_cases k7:h.kind=7
   ·simp only [if_neg k1,if_neg k2,if_neg k3,if_neg k4,if_neg k5,if_neg k6,if_pos k7,List.length_append,List.length_cons,List.length_nil]
    omega
   by_cases k8:h.kind=8
   ·have:=ib (Or.inl (by rw [k8];rfl))
    have:=il (Or.inl k8)
    have:=hnm (by omega)
    simp only [if_neg k1,if_neg k2,if_neg k3,if_neg k4,if_neg k5,if_neg k6,if_neg k7,if_pos k8,List.length_append,List.length_cons,List.length_nil]
    omega
   ·simp only [if_neg k1,if_neg k2,if_neg k3,if_neg k4,if_neg k5,if_neg k6,if_neg k7,if_neg k8,List.length_append,List.length_cons,List.length_nil]
    omega
theorem tyT_ln (t:Int):(tyT t).length≤7:=by
 unfold tyT
 repeat' split
 all_goals simp
include hn in
theorem paT_ln:∀(l:List Pa),errP rn l=0→(paT l).length≤100*l.length
 | [],_=>by simp [paT]
 | [p],h=>by
   have h1:=(orE_0 (orE_0 h).1).1
   have:=hn _ h1
   have:=tyT_ln p.type
   simp only [paT,List.length_append,List.length_cons,List.length_nil]
   omega
 | p::q::r,h=>by
   have h1:=(orE_0 (orE_0 h).1).1
   have:=hn _ h1
   have:=tyT_ln p.type
   have:=paT_ln (q::r) (orE_0 h).2
   simp only [paT,List.length_append,List.length_cons,List.length_nil] at *
   omega
include hn ht in
theorem deT_ln (d:De) (he:errD rn cn d=0) (hN:NnD d):(deT tx d).length≤5000*ndD d:=by
 unfold errD at he
 obtain ⟨a1,a2⟩:=orE_0 he
 obtain ⟨a3,a4⟩:=orE_0 a2
 obtain ⟨a5,a6⟩:=orE_0 a4
 obtain ⟨a7,a8⟩:=orE_0 a6
 obtain ⟨a9,b1⟩:=orE_0 a8
 obtain ⟨b2,b3⟩:=orE_0 b1
 have hdd:dD d≤32:=by
  apply Classical.byContradiction
  intro hc
  rw [if_pos (by omega)] at a1
  exact absurd a1 (by decide)
 have hfit:=ifx (c:=fitsD d=true) a3 (by decide)
 have hnm:=hn _ a5
 have hty:=tyT_ln d.type
 have hx:(exT d.ex).length≤7:=by unfold exT;split<;>simp
 have hF:=txF_ln hn ht d.e b2 hN.1
 have hP:=paT_ln hn d.params a9
 unfold deT ndD
 by_cases k1:d.kind=1
 ·simp only [if_pos k1,List.length_append,List.length_cons,List.length_nil]
  omega
 by_cases k2:d.kind=2
 ·simp only [if_neg k1,if_pos k2,List.length_append,List.length_cons,List.length_nil]
  omega
 ·have k3:d.kind=3:=by
   apply Classical.byContradiction
   intro k3
   unfold fitsD at hfit
   rw [if_neg k1,if_neg k2,if_neg k3] at hfit
   exact absurd hfit (by decide)
  have hS:=stT_ln hn ht d.body 1 1 (by decide) b3 hN.2 (by have:=(dD_of hdd).2 k3;simpa using this)
  simp only [if_neg k1,if_neg k2,List.length_append,List.length_cons,List.length_nil]
  omega
include hn ht in
theorem desT_ln:∀(l:List De),errDs rn cn l=0→(∀d∈l,NnD d)→(l.flatMap (deT tx)).length≤5000*fDs l
 | [],_,_=>by simp
 | d::r,he,hN=>by
   obtain ⟨h1,h2⟩:=orE_0 he
   have i:=desT_ln r h2 (fun x hx=>hN x (by simp [hx]))
   have j:=deT_ln hn ht d h1 (hN d (by simp))
   simp only [List.flatMap_cons,List.length_append,fDs,List.map_cons,List.sum_cons] at *
   omega
include hn in
theorem impT_ln:∀(l:List Bs),errI rn l=0→(l.flatMap (fun x=>[105,109,112,111,114,116,32]++x++[59,10])).length≤100*l.length
 | [],_=>by simp
 | x::r,he=>by
   obtain ⟨h1,h2⟩:=orE_0 he
   have i:=impT_ln r h2
   have j:=hn _ h1
   rw [List.flatMap_cons]
   simp only [List.length_append,List.length_cons,List.length_nil] at *
   omega
include hn ht in
theorem moT_ln (m:Mo) (he:errM rn cn m=0) (hN:∀d∈m.decls,NnD d):(moT tx m).length≤100+100*m.imports.length+5000*fDs m.decls:=by
 unfold errM at he
 obtain ⟨a1,a2⟩:=orE_0 he
 obtain ⟨a3,a4⟩:=orE_0 a2
 obtain ⟨a5,a6⟩:=orE_0 a4
 obtain ⟨a7,a8⟩:=orE_0 a6
 have h1:=hn _ a1
 have h2:=impT_ln hn m.imports a5
 have h3:=desT_ln hn ht m.decls a8 hN
 unfold moT
 rw [List.length_append,List.length_append]
 simp only [List.length_append,List.length_cons,List.length_nil] at *
 omega
end
end Pz
end
section
open Go.RowKit Lx Te
abbrev pp (q:Nat):Value:=.pointer (some ⟨q,0,none⟩)
abbrev psO (v:Value) (d:Nat) (fl:Bool):Obj:=.cells #[v,ci (d:Int),.bool fl] 146 (0,0)
def Tq (q:Nat) (w:World):Prop:=∀w',Fr (fun k=>q≤k) w w'→F.Tab w'
theorem Tq.step {q:Nat} {S:Nat→Prop} {w w':World} (h:Tq q w) (hf:Fr S w w') (hS:∀k,S k→q≤k):Tq q w' :=
 fun w'' hf'=>h w'' ((hf.mono (fun k _ hk=>hS k hk)).same hf')
theorem Tq.of {q:Nat} {w w':World} (h:F.Tab w) (hf:Fr (fun _=>False) w w') (hq:w.heap.size≤q):Tq q w' :=
 fun w'' hf'=>tab_fr h (hf.trans hf' (fun k hk hs=>by omega))
def Ps (w:World) (q:Nat) (ts:List Tok) (d:Nat) (fl:Bool):Prop :=
 Tq q w∧∃g off cap,w.heap[q]?=some (psO (.slice (some ⟨g,off,none⟩) ts.length cap) d fl)∧g<q∧ts.length≤cap∧cap≤maxLen ∧
  ∀(i:Nat) (t:Tok),ts[i]?=some t→∀(j:Nat) (x:Value),(tokC t)[j]?=some x→w.cell? ⟨g,off+i*5+j,none⟩=some x
theorem Ps.keepN {w w':World} {q:Nat} {ts:List Tok} {d:Nat} {fl:Bool} (h:Ps w q ts d fl) (hf:Fr (fun _=>False) w w'):Ps w' q ts d fl:=by
 obtain ⟨hTq,g,off,cap,h1,h2,h3,h4,h5⟩:=h
 exact ⟨hTq.step hf (fun _ f=>f.elim),g,off,cap,hf.heap h1 (fun f=>f),h2,h3,h4,fun i t ht j x hx=>hf.cellN (h5 i t ht j x hx)⟩
theorem Ps.lt {w:World} {q:Nat} {ts:List Tok} {d:Nat} {fl:Bool} (h:Ps w q ts d fl):q<w.heap.size:=by
 obtain ⟨hTq,g,off,cap,h1,_⟩:=h
 exact lt_of_heap h1
theorem Ps.set {w w':World} {q:Nat} {ts:List Tok} {d d':Nat} {fl fl':Bool} (h:Ps w q ts d fl) (hf:Fr (fun k=>k=q) w w') (hw:∀v,w.heap[q]?=some (psO v d fl)→w'.heap[q]?=some (psO v d' fl')):Ps w' q ts d' fl':=by
 obtain ⟨hTq,g,off,cap,h1,h2,h3,h4,h5⟩:=h
 exact ⟨hTq.step hf (fun k hk=>by subst hk;exact Nat.le_refl _),g,off,cap,hw _ h1,h2,h3,h4,fun i t ht j x hx=>hf.cell (h5 i t ht j x hx) (by show g≠q;omega)⟩
theorem Ps.high {S:Nat→Prop} {w w':World} {q:Nat} {ts:List Tok} {d:Nat} {fl:Bool} (h:Ps w q ts d fl) (hf:Fr S w w') (hS:∀k,S k→q<k):Ps w' q ts d fl:=by
 obtain ⟨hTq,g,off,cap,h1,h2,h3,h4,h5⟩:=h
 exact ⟨hTq.step hf (fun k hk=>Nat.le_of_lt (hS k hk)),g,off,cap,hf.heap h1 (fun f=>by have:=hS q f;omega),h2,h3,h4,fun i t ht j x hx=>hf.cell (h5 i t ht j x hx) (fun f=>by have:=hS g f;omega)⟩
theorem Fr.put (w:World) (g off:Nat) (v:Value):Fr (fun k=>k=g) w (w.setCell ⟨g,off,none⟩ v):=Fr.setCell w ⟨g,off,none⟩ v
theorem set2_fr (w:World) (g:Nat) (v0 v1:Value):Fr (fun k=>k=g) w ((w.setCell ⟨g,0,none⟩ v0).setCell ⟨g,1,none⟩ v1):=(Fr.put w g 0 v0).same (Fr.put _ g 1 v1)
theorem set3_fr (w:World) (g:Nat) (v0 v1 v2:Value):Fr (fun k=>k=g) w (((w.setCell ⟨g,0,none⟩ v0).setCell ⟨g,1,none⟩ v1).setCell ⟨g,2,none⟩ v2):=(set2_fr w g v0 v1).same (Fr.put _ g 2 v2)
theorem set4_fr (w:World) (g:Nat) (v0 v1 v2 v3:Value):Fr (fun k=>k=g) w ((((w.setCell ⟨g,0,none⟩ v0).setCell ⟨g,1,none⟩ v1).setCell ⟨g,2,none⟩ v2).setCell ⟨g,3,none⟩ v3):=(set3_fr w g v0 v1 v2).same (Fr.put _ g 3 v3)
theorem set5_fr (w:World) (g:Nat) (v0 v1 v2 v3 v4:Value):Fr (fun k=>k=g) w (((((w.setCell ⟨g,0,none⟩ v0).setCell ⟨g,1,none⟩ v1).setCell ⟨g,2,none⟩ v2).setCell ⟨g,3,none⟩ v3).setCell ⟨g,4,none⟩ v4):=(set4_fr w g v0 v1 v2 v3).same (Fr.put _ g 4 v4)
theorem set6_fr (w:World) (g:Nat) (v0 v1 v2 v3 v4 v5:Value):Fr (fun k=>k=g) w ((((((w.setCell ⟨g,0,none⟩ v0).setCell ⟨g,1,none⟩ v1).setCell ⟨g,2,none⟩ v2).setCell ⟨g,3,none⟩ v3).setCell ⟨g,4,none⟩ v4).setCell ⟨g,5,none⟩ v5):=(set5_fr w g v0 v1 v2 v3 v4).same (Fr.put _ g 5 v5)
theorem set7_fr (w:World) (g:Nat) (v0 v1 v2 v3 v4 v5 v6:Value):Fr (fun k=>k=g) w (((((((w.setCell ⟨g,0,none⟩ v0).setCell ⟨g,1,none⟩ v1).setCell ⟨g,2,none⟩ v2).setCell ⟨g,3,none⟩ v3).setCell ⟨g,4,none⟩ v4).setCell ⟨g,5,none⟩ v5).setCell ⟨g,6,none⟩ v6):=(set6_fr w g v0 v1 v2 v3 v4 v5).same (Fr.put _ g 6 v6)
theorem set_seven {w:World} {g:Nat} {a b c d e f h:Value} {t:TypeId} (hg:w.heap[g]?=some (.cells #[a,b,c,d,e,f,h] t (0,0))) (v0 v1 v2 v3 v4 v5 v6:Value) :
 (((((((w.setCell ⟨g,0,none⟩ v0).setCell ⟨g,1,none⟩ v1).setCell ⟨g,2,none⟩ v2).setCell ⟨g,3,none⟩ v3).setCell ⟨g,4,none⟩ v4).setCell ⟨g,5,none⟩ v5).setCell ⟨g,6,none⟩ v6).heap[g]?=some (.cells #[v0,v1,v2,v3,v4,v5,v6] t (0,0)):=by
 have h1:(w.setCell ⟨g,0,none⟩ v0).heap[g]?=some (.cells #[v0,b,c,d,e,f,h] t (0,0)):=heap_setCell_same _ g 0 _ t v0 hg
 have h2:((w.setCell ⟨g,0,none⟩ v0).setCell ⟨g,1,none⟩ v1).heap[g]?=some (.cells #[v0,v1,c,d,e,f,h] t (0,0)):=heap_setCell_same _ g 1 _ t v1 h1
 have h3:(((w.setCell ⟨g,0,none⟩ v0).setCell ⟨g,1,none⟩ v1).setCell ⟨g,2,none⟩ v2).heap[g]?=some (.cells #[v0,v1,v2,d,e,f,h] t (0,0)):=heap_setCell_same _ g 2 _ t v2 h2
 have h4:((((w.setCell ⟨g,0,none⟩ v0).setCell ⟨g,1,none⟩ v1).setCell ⟨g,2,none⟩ v2).setCell ⟨g,3,none⟩ v3).heap[g]?=some (.cells #[v0,v1,v2,v3,e,f,h] t (0,0)):=heap_setCell_same _ g 3 _ t v3 h3
 have h5:(((((w.setCell ⟨g,0,none⟩ v0).setCell ⟨g,1,none⟩ v1).setCell ⟨g,2,none⟩ v2).setCell ⟨g,3,none⟩ v3).setCell ⟨g,4,none⟩ v4).heap[g]?=some (.cells #[v0,v1,v2,v3,v4,f,h] t (0,0)):=heap_setCell_same _ g 4 _ t v4 h4
 have h6:((((((w.setCell ⟨g,0,none⟩ v0).setCell ⟨g,1,none⟩ v1).setCell ⟨g,2,none⟩ v2).setCell ⟨g,3,none⟩ v3).setCell ⟨g,4,none⟩ v4).setCell ⟨g,5,none⟩ v5).heap[g]?=some (.cells #[v0,v1,v2,v3,v4,v5,h] t (0,0)):=heap_setCell_same _ g 5 _ t v5 h5
 have h7:(((((((w.setCell ⟨g,0,none⟩ v0).setCell ⟨g,1,none⟩ v1).setCell ⟨g,2,none⟩ v2).setCell ⟨g,3,none⟩ v3).setCell ⟨g,4,none⟩ v4).setCell ⟨g,5,none⟩ v5).setCell ⟨g,6,none⟩ v6).heap[g]?=some (.cells #[v0,v1,v2,v3,v4,v5,v6] t (0,0)):=heap_setCell_same _ g 6 _ t v6 h6
 exact h7
theorem post_one {fn:Func} {R:Ending→World→Prop} {a:Act} {w:World} {v:Value} (hr:(results fn a.tmps).run Tryz.prog w = .ok v w) (hd:a.defers=[]) (hR:R (.returned v) w):bodyPost Tryz.prog fn R .ret a w:=⟨hd,_,hr,hR⟩
theorem info_fault:(Tryz.prog.info? 110).map (·.size)=some 2:=by kernel_rfl
theorem fr_set1 {S:Nat→Prop} {w w':World} {b:Nat} (h:Fr S w w') (hb:w.heap.size≤b) (off:Nat) (v:Value):Fr S w (w'.setCell ⟨b,off,none⟩ v) :=
 h.over (Fr.setCell w' ⟨b,off,none⟩ v) (fun k hk=>by have:k=b:=hk;omega)
theorem Ps.head {w:World} {q:Nat} {t:Tok} {r:List Tok} {d:Nat} {fl:Bool} (h:Ps w q (t::r) d fl):∃g off cap,w.heap[q]?=some (psO (.slice (some ⟨g,off,none⟩) (r.length+1) cap) d fl)∧g<q∧r.length+1≤cap∧cap≤9223372036854775807 ∧
 w.cell? ⟨g,off,none⟩=some (.int .i64 (t.k:Int))∧w.cell? ⟨g,off+1,none⟩=some (.string ⟨t.x.toArray⟩)∧w.cell? ⟨g,off+2,none⟩=some (.int .i64 t.ty)∧w.cell? ⟨g,off+3,none⟩=some (.int .u64 t.b)∧w.cell? ⟨g,off+4,none⟩=some (.int .i64 (t.p:Int)) ∧
 (∀(i:Nat) (u:Tok),r[i]?=some u→∀(j:Nat) (x:Value),(tokC u)[j]?=some x→w.cell? ⟨g,off+5+i*5+j,none⟩=some x):=by
 obtain ⟨hTq,g,off,cap,h1,h2,h3,h4,h5⟩:=h
 have h0:=h5 0 t rfl
 refine ⟨g,off,cap,h1,h2,h3,by unfold maxLen at h4;omega,by simpa using h0 0 _ rfl,by simpa using h0 1 _ rfl,by simpa using h0 2 _ rfl,by simpa using h0 3 _ rfl,by simpa using h0 4 _ rfl,fun i u hu j x hx=>?_⟩
 have:=h5 (i+1) u (by simpa using hu) j x hx
 rw [show off+5+i*5+j=off+(i+1)*5+j by omega]
 exact this
abbrev tok0:Obj:=.cells #[.int .i64 0,.string ⟨#[]⟩,.int .i64 0,.int .u64 0,.int .i64 0] 42 (0,0)
theorem next_any (q:Nat) (t:Tok) (r:List Tok) (d:Nat) (fl:Bool) (w:World) (h:Ps w q (t::r) d fl) :
 Calls Tryz.prog 111 #[pp q] w fun e w'=>e = .returned (.agg #[.int .i64 (t.k:Int),.string ⟨t.x.toArray⟩,.int .i64 t.ty,.int .u64 t.b,.int .i64 (t.p:Int)])∧Fr (fun _=>False) w w':=by
 obtain ⟨g,off,cap,h1,h2,h3,h4,c0,c1,c2,c3,c4,_⟩:=h.head
 have f0:=Fr.alloc (fun _=>False) w tok0
 have z0:(w.alloc tok0).cell? ⟨q,0,none⟩=some (.slice (some ⟨g,off,none⟩) (r.length+1) cap):=cell_of_row _ _ 0 _ _ _ (f0.heap h1 (fun f=>f))
 have e0:=f0.cellN c0
 have e1:=f0.cellN c1
 have e2:=f0.cellN c2
 have e3:=f0.cellN c3
 have e4:=f0.cellN c4
 clear c0 c1 c2 c3 c4 h1
 have hz:(0:Int)<((r.length+1:Nat):Int):=by omega
 go_enter Tryz.func111,Tryz.ntmps111
 go_wp2_with fail
 exact post_one (results_cell_row rfl _ _ _ _ _ _ _ rfl (alloc_new _ _) Tryz.underlying42 rfl info_tok) rfl ⟨rfl,Fr.alloc _ _ _⟩
theorem fld0 (a b c d e:Value) (w:World):(Instr.field 42 (.agg #[a,b,c,d,e]) 0).run Tryz.prog w = .ok a w:=by kernel_rfl
theorem fld1 (a b c d e:Value) (w:World):(Instr.field 42 (.agg #[a,b,c,d,e]) 1).run Tryz.prog w = .ok b w:=by kernel_rfl
theorem fld2 (a b c d e:Value) (w:World):(Instr.field 42 (.agg #[a,b,c,d,e]) 2).run Tryz.prog w = .ok (.agg #[c,d]) w:=by kernel_rfl
theorem fld3 (a b c d e:Value) (w:World):(Instr.field 42 (.agg #[a,b,c,d,e]) 3).run Tryz.prog w = .ok e w:=by kernel_rfl
theorem box2 {w:World} {b:Nat} {x0 x1:Value} {t:TypeId} (h:w.heap[b]?=some (.cells #[x0,x1] t (0,0))) :
 w.cell? ⟨b,0,none⟩=some x0∧w.cell? ⟨b,1,none⟩=some x1∧w.frozen? ⟨b,0,none⟩=false∧w.frozen? ⟨b,1,none⟩=false :=
 ⟨cell_of_row _ _ 0 _ _ _ h,cell_of_row _ _ 1 _ _ _ h,frozen_row h 0,frozen_row h 1⟩
theorem box3 {w:World} {b:Nat} {x0 x1 x2:Value} {t:TypeId} (h:w.heap[b]?=some (.cells #[x0,x1,x2] t (0,0))) :
 w.cell? ⟨b,0,none⟩=some x0∧w.cell? ⟨b,1,none⟩=some x1∧w.cell? ⟨b,2,none⟩=some x2∧w.frozen? ⟨b,0,none⟩=false∧w.frozen? ⟨b,1,none⟩=false∧w.frozen? ⟨b,2,none⟩=false :=
 ⟨cell_of_row _ _ 0 _ _ _ h,cell_of_row _ _ 1 _ _ _ h,cell_of_row _ _ 2 _ _ _ h,frozen_row h 0,frozen_row h 1,frozen_row h 2⟩
theorem box5 {w:World} {b:Nat} {x0 x1 x2 x3 x4:Value} {t:TypeId} (h:w.heap[b]?=some (.cells #[x0,x1,x2,x3,x4] t (0,0))) :
 w.cell? ⟨b,0,none⟩=some x0∧w.cell? ⟨b,1,none⟩=some x1∧w.cell? ⟨b,2,none⟩=some x2∧w.cell? ⟨b,3,none⟩=some x3∧w.cell? ⟨b,4,none⟩=some x4 ∧
 w.frozen? ⟨b,0,none⟩=false∧w.frozen? ⟨b,1,none⟩=false∧w.frozen? ⟨b,2,none⟩=false∧w.frozen? ⟨b,3,none⟩=false∧w.frozen? ⟨b,4,none⟩=false :=
 ⟨cell_of_row _ _ 0 _ _ _ h,cell_of_row _ _ 1 _ _ _ h,cell_of_row _ _ 2 _ _ _ h,cell_of_row _ _ 3 _ _ _ h,cell_of_row _ _ 4 _ _ _ h,frozen_row h 0,frozen_row h 1,frozen_row h 2,frozen_row h 3,frozen_row h 4⟩
theorem box7 {w:World} {b:Nat} {x0 x1 x2 x3 x4 x5 x6:Value} {t:TypeId} (h:w.heap[b]?=some (.cells #[x0,x1,x2,x3,x4,x5,x6] t (0,0))) :
 w.cell? ⟨b,0,none⟩=some x0∧w.cell? ⟨b,1,none⟩=some x1∧w.cell? ⟨b,2,none⟩=some x2∧w.cell? ⟨b,3,none⟩=some x3∧w.cell? ⟨b,4,none⟩=some x4∧w.cell? ⟨b,5,none⟩=some x5∧w.cell? ⟨b,6,none⟩=some x6 ∧
 w.frozen? ⟨b,0,none⟩=false∧w.frozen? ⟨b,1,none⟩=false∧w.frozen? ⟨b,2,none⟩=false∧w.frozen? ⟨b,3,none⟩=false∧w.frozen? ⟨b,4,none⟩=false∧w.frozen? ⟨b,5,none⟩=false∧w.frozen? ⟨b,6,none⟩=false :=
 ⟨cell_of_row _ _ 0 _ _ _ h,cell_of_row _ _ 1 _ _ _ h,cell_of_row _ _ 2 _ _ _ h,cell_of_row _ _ 3 _ _ _ h,cell_of_row _ _ 4 _ _ _ h,cell_of_row _ _ 5 _ _ _ h,cell_of_row _ _ 6 _ _ _ h,frozen_row h 0,frozen_row h 1,frozen_row h 2,frozen_row h 3,frozen_row h 4,frozen_row h 5,frozen_row h 6⟩
theorem is_any (q:Nat) (s:Bs) (t:Tok) (r:List Tok) (d:Nat) (fl:Bool) (b:Bool) (hb:Hidden ((t.x == s)=b)) (w:World) (h:Ps w q (t::r) d fl) :
 Calls Tryz.prog 65 #[pp q,ct s] w fun e w'=>e = .returned (.bool b)∧Fr (fun _=>False) w w':=by
 have kn:=next_any q t r d fl w h
 have hf1:=fld1
 go_enter Tryz.func65,Tryz.ntmps65
 go_wp2_with (go_at_call 111;refine kn.mono ?_;rintro e W1 ⟨rfl,f1⟩)
 go_ret
 refine ⟨?_,f1⟩
 rw [←(show _=b from hb)]
 rfl
theorem fault_any (q:Nat) (c:Int) (t:Tok) (r:List Tok) (d:Nat) (fl:Bool) (w:World) (h:Ps w q (t::r) d fl) :
 Calls Tryz.prog 109 #[pp q,ci c] w fun e w'=>e = .returned (.agg #[ci (t.p:Int),ci c])∧Fr (fun _=>False) w w':=by
 have f0:=Fr.alloc (fun _=>False) w (.cells #[ci 0,ci 0] 110)
 have kn:=next_any q t r d fl _ (h.keepN f0)
 have hf3:=fld3
 have hn:Hidden ((w.alloc (.cells #[ci 0,ci 0] 110)).heap[w.heap.size]?=some (.cells #[ci 0,ci 0] 110 (0,0))):=alloc_new _ _
 go_enter Tryz.func109,Tryz.ntmps109
 go_wp2_with fail
 go_at_call 111
 refine kn.mono ?_
 rintro e W1 ⟨rfl,f1⟩
 have hb:=f1.heap hn (fun f=>f)
 have c0:W1.cell? ⟨w.heap.size,0,none⟩=some (ci 0):=cell_of_row _ _ 0 _ _ _ hb
 have c1:W1.cell? ⟨w.heap.size,1,none⟩=some (ci 0):=cell_of_row _ _ 1 _ _ _ hb
 have z0:=frozen_row hb 0
 have z1:=frozen_row hb 1
 go_wp2_with fail
 refine post_one (results_cell_row rfl _ _ _ _ _ _ _ rfl (set_two hb _ _) Tryz.underlying110 rfl info_fault) rfl ⟨rfl,?_⟩
 exact fr_set1 (fr_set1 (f0.same f1) (Nat.le_refl _) _ _) (Nat.le_refl _) _ _
def gP (p:Nat) (c:Int):Ending:=.panicked [{ v:=.iface 110 (.agg #[.int .i64 (p:Int),.int .i64 c]),recovered:=false }]
theorem slice_tail (g off n cap:Nat) (h:n+1≤cap) (hc:cap≤9223372036854775807):∃off',(n=0∨off'=off+5)∧∀w,(Instr.slice 35 (.slice (some ⟨g,off,none⟩) (n+1) cap) (some (.int .i64 1)) none none).run Tryz.prog w = .ok (.slice (some ⟨g,off',none⟩) n (cap - 1)) w:=by
 have hi:Tryz.prog.info? 42=none∨∃i,Tryz.prog.info? 42=some i∧i.size=5:=by
  have:=info_tok
  cases hx:Tryz.prog.info? 42 with
  | none=>exact Or.inl rfl
  | some i=>rw [hx] at this;exact Or.inr ⟨i,rfl,by simpa using this⟩
 rcases hi with hi | ⟨i,hi,h5⟩
 ·have:=info_tok
  rw [hi] at this
  cases this
 ·by_cases h1:cap=1
  ·refine ⟨off,Or.inl (by omega),fun w=>?_⟩
   subst h1
   obtain rfl:n=0:=by omega
   simp [Instr.slice,Instr.sliceBounds,Instr.sliceBound,go_sem,Tryz.underlying35,sizeOf,typeInfo,hi,h5,Sem.run_bind]
  ·refine ⟨off+5,Or.inr rfl,fun w=>?_⟩
   simp [Instr.slice,Instr.sliceBounds,Instr.sliceBound,go_sem,Tryz.underlying35,sizeOf,typeInfo,hi,h5,Sem.run_bind,Addr.add,h1]
   intro h9
   omega
theorem frozen_ps {w:World} {q:Nat} {v:Value} {d:Nat} {fl:Bool} (h:w.heap[q]?=some (psO v d fl)) (j:Nat):w.frozen? ⟨q,j,none⟩=false:=frozen_row h j
theorem take_no (q:Nat) (t:Tok) (r:List Tok) (d:Nat) (w:World) (h:Ps w q (t::r) d true) :
 Calls Tryz.prog 112 #[pp q] w fun e w'=>e=gP t.p 3∧Fr (fun _=>False) w w':=by
 have f0:=Fr.alloc (fun _=>False) w tok0
 have kf:=fault_any q 3 t r d true _ (h.keepN f0)
 obtain ⟨hTq,g,off,cap,h1,_⟩:=h
 have z2:(w.alloc tok0).cell? ⟨q,2,none⟩=some (.bool true):=cell_of_row _ _ 2 _ _ _ (f0.heap h1 (fun f=>f))
 clear h1
 go_enter Tryz.func112,Tryz.ntmps112
 go_wp2_with (go_at_call 109;refine kf.mono ?_;rintro e W1 ⟨rfl,f1⟩)
 exact ⟨rfl,rfl,f0.same f1⟩
theorem take_ok (q:Nat) (t:Tok) (r:List Tok) (d:Nat) (w:World) (h:Ps w q (t::r) d false) :
 Calls Tryz.prog 112 #[pp q] w fun e w'=>e = .returned (.agg #[.int .i64 (t.k:Int),.string ⟨t.x.toArray⟩,.int .i64 t.ty,.int .u64 t.b,.int .i64 (t.p:Int)])∧Ps w' q r d false∧Fr (fun k=>k=q) w w':=by
 have f0:=Fr.alloc (fun _=>False) w tok0
 have kn:=next_any q t r d false _ (h.keepN f0)
 have hn:Hidden ((w.alloc tok0).heap[w.heap.size]?=some tok0):=alloc_new _ _
 have hlt:=h.lt
 obtain ⟨g,off,cap,h1,h2,h3,h4,c0,c1,c2,c3,c4,hrest⟩:=h.head
 have z2:(w.alloc tok0).cell? ⟨q,2,none⟩=some (.bool false):=cell_of_row _ _ 2 _ _ _ (f0.heap h1 (fun f=>f))
 have hTq:=h.1
 obtain ⟨off',hoff,hsl⟩:=slice_tail g off r.length cap h3 h4
 have h1H:Hidden (w.heap[q]?=some (psO (.slice (some ⟨g,off,none⟩) (r.length+1) cap) d false)):=h1
 have hoffH:Hidden (r.length=0∨off'=off+5):=hoff
 clear c0 c1 c2 c3 c4 h1 hoff h
 go_enter Tryz.func112,Tryz.ntmps112
 go_wp2_with fail
 go_at_call 111
 refine kn.mono ?_
 rintro e W1 ⟨rfl,f1⟩
 have hq1:=(f0.same f1).heap h1H (fun f=>f)
 have hn1:=f1.heap hn (fun f=>f)
 have hs1:=f1.size
 have fa:=Fr.alloc (fun _=>False) W1 (.cells #[.int .i64 (t.k:Int),.string ⟨t.x.toArray⟩,.int .i64 t.ty,.int .u64 t.b,.int .i64 (t.p:Int)] 42)
 have y0:(W1.alloc (.cells #[.int .i64 (t.k:Int),.string ⟨t.x.toArray⟩,.int .i64 t.ty,.int .u64 t.b,.int .i64 (t.p:Int)] 42)).cell? ⟨q,0,none⟩=some (.slice (some ⟨g,off,none⟩) (r.length+1) cap):=cell_of_row _ _ 0 _ _ _ (fa.heap hq1 (fun f=>f))
 have z0:=frozen_ps (fa.heap hq1 (fun f=>f)) 0
 go_upto_region 5 with fail
 have g1:Fr (fun k=>k=q) W1 ((W1.alloc (.cells #[.int .i64 (t.k:Int),.string ⟨t.x.toArray⟩,.int .i64 t.ty,.int .u64 t.b,.int .i64 (t.p:Int)] 42)).setCell ⟨q,0,none⟩ (.slice (some ⟨g,off',none⟩) r.length (cap - 1))):=(fa.mono (fun _ _ f=>f.elim)).same (Fr.setCell _ ⟨q,0,none⟩ _)
 have g2:((W1.alloc (.cells #[.int .i64 (t.k:Int),.string ⟨t.x.toArray⟩,.int .i64 t.ty,.int .u64 t.b,.int .i64 (t.p:Int)] 42)).setCell ⟨q,0,none⟩ (.slice (some ⟨g,off',none⟩) r.length (cap - 1))).heap[q]?=some (psO (.slice (some ⟨g,off',none⟩) r.length (cap - 1)) d false):=heap_setCell_same _ q 0 _ 146 _ (fa.heap hq1 (fun f=>f))
 have g3:((W1.alloc (.cells #[.int .i64 (t.k:Int),.string ⟨t.x.toArray⟩,.int .i64 t.ty,.int .u64 t.b,.int .i64 (t.p:Int)] 42)).setCell ⟨q,0,none⟩ (.slice (some ⟨g,off',none⟩) r.length (cap - 1))).heap[W1.heap.size]?=some (.cells #[.int .i64 (t.k:Int),.string ⟨t.x.toArray⟩,.int .i64 t.ty,.int .u64 t.b,.int .i64 (t.p:Int)] 42 (0,0)):=by
  rw [heap_setCell_other _ _ _ _ (by show W1.heap.size≠q;simp at hs1;omega)]
  exact alloc_new _ _
 have hn2:=g1.heap hn1 (by omega)
 generalize (W1.alloc (.cells #[.int .i64 (t.k:Int),.string ⟨t.x.toArray⟩,.int .i64 t.ty,.int .u64 t.b,.int .i64 (t.p:Int)] 42)).setCell ⟨q,0,none⟩ (.slice (some ⟨g,off',none⟩) r.length (cap - 1))=W2 at g1 g2 g3 hn2 ⊢
 obtain ⟨b0,b1,b2,b3,b4,y0,y1,y2,y3,y4⟩:=box5 g3
 obtain ⟨a0,a1,a2,a3,a4,x0,x1,x2,x3,x4⟩:=box5 hn2
 have g2H:Hidden (W2.heap[q]?=some (psO (.slice (some ⟨g,off',none⟩) r.length (cap - 1)) d false)):=g2
 have hn2H:Hidden (W2.heap[w.heap.size]?=some tok0):=hn2
 clear g2 g3 hn2 hn1 hq1 y0 y1 y2 y3 y4
 go_wp2_with fail
 have fr5:=fr_five (((f0.same f1).mono (fun _ _ f=>f.elim)).same g1) (Nat.le_refl _) (.int .i64 (t.k:Int)) (.string ⟨t.x.toArray⟩) (.int .i64 t.ty) (.int .u64 t.b) (.int .i64 (t.p:Int))
 refine post_one (results_cell_row rfl _ _ _ _ _ _ _ rfl (set_five hn2H _ _ _ _ _) Tryz.underlying42 rfl info_tok) rfl ⟨rfl,?_,fr5⟩
 have hW2:Ps W2 q r d false:=by
  refine ⟨(hTq.step (f0.same f1) (fun _ f=>f.elim)).step g1 (fun k hk=>by subst hk;exact Nat.le_refl _),g,off',cap - 1,g2H,h2,by omega,by unfold maxLen;omega,fun i u hu j x hx=>?_⟩
  have ho:r.length=0∨off'=off+5:=hoffH
  rcases ho with h0 | rfl
  ·rw [List.eq_nil_of_length_eq_zero h0] at hu
   simp at hu
  ·exact g1.cell ((f0.same f1).cellN (hrest i u hu j x hx)) (by show g≠q;omega)
 exact hW2.high (set5_fr W2 w.heap.size _ _ _ _ _) (fun k hk=>by subst hk;exact hlt)
def Out {α:Type} (T:α→Value→World→World→Prop) (q d:Nat) (w:World) (r:Pz.Rs α) (e:Ending) (w':World):Prop :=
 match r with
 | .ok a ts=>∃v,e = .returned v∧T a v w w'∧Ps w' q ts d false∧Fr (fun k=>k=q) w w'
 | .er p c=>e=gP p c∧Fr (fun k=>k=q) w w'
theorem frq {q:Nat} {w w':World} (h:Fr (fun _=>False) w w'):Fr (fun k=>k=q) w w':=h.mono (fun _ _ f=>f.elim)
theorem has_no (q:Nat) (s:Bs) (t:Tok) (r:List Tok) (d:Nat) (fl:Bool) (hx:t.x≠s) (w:World) (h:Ps w q (t::r) d fl) :
 Calls Tryz.prog 110 #[pp q,ct s] w fun e w'=>e = .returned (.bool false)∧Fr (fun _=>False) w w':=by
 have ki:=is_any q s t r d fl false (by simpa [Hidden] using hx) w h
 go_enter Tryz.func110,Tryz.ntmps110
 go_wp2_with (go_at_call 65;refine ki.mono ?_;rintro e W1 ⟨rfl,f1⟩)
 go_ret
 exact ⟨rfl,f1⟩
theorem has_yes (q:Nat) (s:Bs) (t:Tok) (r:List Tok) (d:Nat) (hx:t.x=s) (w:World) (h:Ps w q (t::r) d false) :
 Calls Tryz.prog 110 #[pp q,ct s] w fun e w'=>e = .returned (.bool true)∧Ps w' q r d false∧Fr (fun k=>k=q) w w':=by
 have ki:=is_any q s t r d false true (by simpa [Hidden] using hx) w h
 have kt:=fun w=>take_ok q t r d w
 have hH:Hidden (Ps w q (t::r) d false):=h
 clear hx h
 go_enter Tryz.func110,Tryz.ntmps110
 go_wp2_with fail
 go_at_call 65
 refine ki.mono ?_
 rintro e W1 ⟨rfl,f1⟩
 go_wp2_with fail
 go_at_call 112
 refine (kt _ (Ps.keepN hH f1)).mono ?_
 rintro e W2 ⟨rfl,h2,f2⟩
 go_wp2_with fail
 go_ret
 exact ⟨rfl,h2,(frq f1).same f2⟩
theorem has_full (q:Nat) (s:Bs) (t:Tok) (r:List Tok) (d:Nat) (hx:t.x=s) (w:World) (h:Ps w q (t::r) d true) :
 Calls Tryz.prog 110 #[pp q,ct s] w fun e w'=>e=gP t.p 3∧Fr (fun k=>k=q) w w':=by
 have ki:=is_any q s t r d true true (by simpa [Hidden] using hx) w h
 have kt:=fun w=>take_no q t r d w
 have hH:Hidden (Ps w q (t::r) d true):=h
 unfold gP at *
 clear hx h
 go_enter Tryz.func110,Tryz.ntmps110
 go_wp2_with fail
 go_at_call 65
 refine ki.mono ?_
 rintro e W1 ⟨rfl,f1⟩
 go_wp2_with fail
 go_at_call 112
 refine (kt _ (Ps.keepN hH f1)).mono ?_
 rintro e W2 ⟨rfl,f2⟩
 go_wp2_with fail
 exact ⟨rfl,rfl,frq (f1.same f2)⟩
theorem must_c (q:Nat) (s:Bs) (ts:List Tok) (d:Nat) (fl:Bool) (rs:Pz.Rs Unit) (hs:Pz.must s fl ts=some rs) (w:World) (h:Ps w q ts d fl) :
 Calls Tryz.prog 63 #[pp q,ct s] w (Out (fun _ v _ _=>v = .tuple #[]) q d w rs):=by
 cases ts with
 | nil=>simp [Pz.must] at hs
 | cons t r =>
   simp only [Pz.must] at hs
   by_cases hx:t.x=s
   ·rw [if_pos hx] at hs
    cases fl
    ·have e:Pz.Rs.ok () r=rs:=by simpa using hs
     subst e
     have k:=has_yes q s t r d hx w h
     clear hs hx
     unfold Out
     go_enter Tryz.func63,Tryz.ntmps63
     go_wp2_with (go_at_call 110;refine k.mono ?_;rintro e W1 ⟨rfl,h1,f1⟩)
     go_end0
     exact ⟨_,rfl,rfl,h1,f1⟩
    ·have e:Pz.Rs.er t.p 3=rs:=by simpa using hs
     subst e
     have k:=has_full q s t r d hx w h
     clear hs hx
     unfold Out gP at *
     go_enter Tryz.func63,Tryz.ntmps63
     go_wp2_with (go_at_call 110;refine k.mono ?_;rintro e W1 ⟨rfl,f1⟩)
     exact ⟨rfl,rfl,f1⟩
   ·rw [if_neg hx] at hs
    have e:Pz.Rs.er t.p 11=rs:=by simpa using hs
    subst e
    have k:=has_no q s t r d fl hx w h
    have kf:=fun w=>fault_any q 11 t r d fl w
    have hH:Hidden (Ps w q (t::r) d fl):=h
    clear hs hx h
    unfold Out gP at *
    go_enter Tryz.func63,Tryz.ntmps63
    go_wp2_with fail
    go_at_call 110
    refine k.mono ?_
    rintro e W1 ⟨rfl,f1⟩
    go_wp2_with fail
    go_at_call 109
    refine (kf _ (Ps.keepN hH f1)).mono ?_
    rintro e W2 ⟨rfl,f2⟩
    go_wp2_with fail
    exact ⟨rfl,rfl,frq (f1.same f2)⟩
theorem has_c (q:Nat) (s:Bs) (ts:List Tok) (d:Nat) (rs:Pz.Rs Bool) (hs:Pz.has s false ts=some rs) (w:World) (h:Ps w q ts d false) :
 Calls Tryz.prog 110 #[pp q,ct s] w (Out (fun b v _ _=>v = .bool b) q d w rs):=by
 cases ts with
 | nil=>simp [Pz.has] at hs
 | cons t r =>
   simp only [Pz.has] at hs
   by_cases hx:t.x=s
   ·rw [if_pos hx] at hs
    have e:Pz.Rs.ok true r=rs:=by simpa using hs
    subst e
    exact (has_yes q s t r d hx w h).mono fun e w' ⟨h1,h2,h3⟩=>⟨_,h1,rfl,h2,h3⟩
   ·rw [if_neg hx] at hs
    have e:Pz.Rs.ok false (t::r)=rs:=by simpa using hs
    subst e
    exact (has_no q s t r d false hx w h).mono fun e w' ⟨h1,h2⟩=>⟨_,h1,rfl,h.keepN h2,frq h2⟩
theorem name_c (q:Nat) (ts:List Tok) (d:Nat) (fl:Bool) (rs:Pz.Rs Bs) (hs:Pz.name fl ts=some rs) (w:World) (h:Ps w q ts d fl) :
 Calls Tryz.prog 64 #[pp q] w (Out (fun n v _ _=>v=ct n) q d w rs):=by
 have hf0:=fld0
 have hf1:=fld1
 cases ts with
 | nil=>simp [Pz.name] at hs
 | cons t r =>
   simp only [Pz.name] at hs
   have kn:=next_any q t r d fl w h
   have hH:Hidden (Ps w q (t::r) d fl):=h
   by_cases hx:t.k=1
   ·rw [if_pos hx] at hs
    have hk:((t.k:Int) == 1)=true:=by simp [hx]
    have hk2:((t.k:Int) != 1)=false:=by simp [hx]
    cases fl
    ·have e:Pz.Rs.ok t.x r=rs:=by simpa using hs
     subst e
     have kt:=fun w=>take_ok q t r d w
     clear hs hx h
     unfold Out
     go_enter Tryz.func64,Tryz.ntmps64
     go_wp2_with fail
     go_at_call 111
     refine kn.mono ?_
     rintro e W1 ⟨rfl,f1⟩
     go_wp2_with fail
     go_at_call 112
     refine (kt _ (Ps.keepN hH f1)).mono ?_
     rintro e W2 ⟨rfl,h2,f2⟩
     go_wp2_with fail
     go_ret
     exact ⟨_,rfl,rfl,h2,(frq f1).same f2⟩
    ·have e:Pz.Rs.er t.p 3=rs:=by simpa using hs
     subst e
     have kt:=fun w=>take_no q t r d w
     clear hs hx h
     unfold Out gP at *
     go_enter Tryz.func64,Tryz.ntmps64
     go_wp2_with fail
     go_at_call 111
     refine kn.mono ?_
     rintro e W1 ⟨rfl,f1⟩
     go_wp2_with fail
     go_at_call 112
     refine (kt _ (Ps.keepN hH f1)).mono ?_
     rintro e W2 ⟨rfl,f2⟩
     go_wp2_with fail
     exact ⟨rfl,rfl,frq (f1.same f2)⟩
   ·rw [if_neg hx] at hs
    have hk:((t.k:Int) == 1)=false:=by rw [beq_eq_false_iff_ne];omega
    have hk2:((t.k:Int) != 1)=true:=by rw [bne_iff_ne];omega
    have e:Pz.Rs.er t.p 11=rs:=by simpa using hs
    subst e
    have kf:=fun w=>fault_any q 11 t r d fl w
    clear hs hx h
    unfold Out gP at *
    go_enter Tryz.func64,Tryz.ntmps64
    go_wp2_with fail
    go_at_call 111
    refine kn.mono ?_
    rintro e W1 ⟨rfl,f1⟩
    go_wp2_with fail
    go_at_call 109
    refine (kf _ (Ps.keepN hH f1)).mono ?_
    rintro e W2 ⟨rfl,f2⟩
    go_wp2_with fail
    exact ⟨rfl,rfl,frq (f1.same f2)⟩
end
end Go.Proofs.YteijjaabngkbjaaGreatDoor
