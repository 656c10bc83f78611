/- PsK PsL PsM PsT PsN PsV PsW -/
import Derived.Test.YteijjaabngkbjaaGreatDoorPsJB
import Derived.Test.YteijjaabngkbjaaGreatDoorLxAll
set_option maxRecDepth 100000
set_option maxHeartbeats 40000000
set_option linter.unusedVariables false
set_option linter.unusedSimpArgs false
set_option linter.unusedSectionVars false
namespace Go.Proofs.YteijjaabngkbjaaGreatDoor
section
namespace Pz
open Lx Te
theorem must_y {s:Bs} {t:Tok} {r:List Tok} (h:t.x=s):must s false (t::r)=some (.ok () r):=by rw [must,if_pos h];rfl
theorem has_y {s:Bs} {t:Tok} {r:List Tok} (h:t.x=s):has s false (t::r)=some (.ok true r):=by rw [has,if_pos h];rfl
theorem has_n {s:Bs} {t:Tok} {r:List Tok} (h:t.x≠s):has s false (t::r)=some (.ok false (t::r)):=by rw [has,if_neg h]
theorem name_y {x:Bs} {r:List Tok}:name false (tN x::r)=some (.ok x r):=rfl
section
variable {rn:Bs→Int} {cn:Int→Int} {tx:Int→Int→Bs} (L:Law rn cn tx)
def kOne (tx:Int→Int→Bs) (h:SH) (e:Exs) (b l:Sts):List Tok :=
 if h.kind=1 then tW [108,101,116]::tN h.name::tM [61]::(kF tx e++[tM [59]])
 else if h.kind=2 then tN h.name::tM [61]::(kF tx e++[tM [59]])
 else if h.kind=3 then tW [105,102]::(kF tx e++tM [123]::(kSt tx b++tM [125]::(if 0<l.len then tW [101,108,115,101]::tM [123]::(kSt tx l++[tM [125]]) else [])))
 else if h.kind=4 then tW [119,104,105,108,101]::(kF tx e++tM [123]::(kSt tx b++[tM [125]]))
 else if h.kind=5 then tW [114,101,116,117,114,110]::(kF tx e++[tM [59]])
 else if h.kind=6 then tW [115,104,111,119]::(kF tx e++[tM [59]])
 else if h.kind=7 then tW [102,97,105,108]::(kF tx e++[tM [59]])
 else if h.kind=8 then tW [116,114,121]::tM [123]::(kSt tx b++tM [125]::tW [99,97,116,99,104]::tN h.name::tM [123]::(kSt tx l++[tM [125]]))
 else kF tx e++[tM [59]]
theorem kSt_cons (h:SH) (e:Exs) (b l r:Sts):kSt tx (.cons h e b l r)=kOne tx h e b l++kSt tx r:=by rw [kSt];rfl
theorem ended_ok (kind:Int) (n:Bs) (e:Exs) (rest:List Tok):ended kind n e (tM [59]::rest)=some (.ok (⟨kind,n⟩,e,.nil,.nil) rest):=by
 rw [ended,must_y (by rfl),bd_ok]
include L
omit L in
theorem dgt_59 {c:UInt8} (h:dgt c=true):c≠59:=by rintro rfl;revert h;decide
theorem nm_59 {x:Bs} (h:rn x=0):x≠[59]:=by
 obtain ⟨c,r,rfl,hc⟩:=L.nm x h
 intro e;cases e;revert hc;decide
theorem head_59:∀(n:Nat) (h:EH) (k:Exs),k.size<n→RX rn cn h k→0≤h.vb→NnX k→∃t r,kB tx h k=t::r∧t.x≠[59]:=by
 intro n
 induction n with
 | zero=>intro h k hn;omega
 | succ n ih =>
   intro h k hs hR h0 hN
   obtain ⟨hfit,hnm,_,hL⟩:=fits_of L hR
   have hK:h.kind=1∨h.kind=2∨h.kind=3∨h.kind=4∨h.kind=5∨h.kind=6∨h.kind=7∨h.kind=8:=by
    unfold fitsE at hfit
    repeat' split at hfit
    all_goals first | omega | cases hfit
   rcases hK with e | e | e | e | e | e | e | e
   ·refine ⟨tL tx h.vt h.vb,kK tx h true k++kPo h,by simp [kB,kP,e],?_⟩
    unfold tL
    have hl:litOk cn h.vt h.vb=true:=by simp [fitsE,e] at hfit;exact hfit.1
    by_cases v1:h.vt=1
    ·rw [if_pos v1]
     obtain ⟨c,r,e',hc⟩:=L.int h.vb h0
     simp only;rw [e'];intro x;cases x;exact dgt_59 hc rfl
    ·rw [if_neg v1]
     by_cases v2:h.vt=2
     ·rw [if_pos v2]
      by_cases e1:h.vb=9218868437227405312
      ·rw [if_pos e1];decide
      ·rw [if_neg e1]
       by_cases e2:h.vb=9221120237041090561
       ·rw [if_pos e2];decide
       ·rw [if_neg e2]
        obtain ⟨c,r,e',hc⟩:=L.flo h.vb h0 (v2 ▸ hl) e1 e2
        simp only;rw [e'];intro x;cases x;exact dgt_59 hc rfl
     ·rw [if_neg v2]
      split<;>decide
   ·exact ⟨tN h.name,kK tx h true k++kPo h,by simp [kB,kP,e],nm_59 L (show rn h.name=0 by simpa [nameE,e] using hnm)⟩
   ·have hm:orE (rn h.mod) (rn h.name)=0:=by simpa [nameE,e] using hnm
    exact ⟨tN h.mod,[tM [46],tN h.name]++kK tx h true k++kPo h,by simp [kB,kP,e],nm_59 L (orE_0 hm).1⟩
   ·exact ⟨tN h.name,[tM [40]]++kK tx h true k++kPo h,by simp [kB,kP,e],nm_59 L (show rn h.name=0 by simpa [nameE,e] using hnm)⟩
   ·have hm:orE (rn h.mod) (rn h.name)=0:=by simpa [nameE,e] using hnm
    exact ⟨tN h.mod,[tM [46],tN h.name,tM [40]]++kK tx h true k++kPo h,by simp [kB,kP,e],nm_59 L (orE_0 hm).1⟩
   ·by_cases o1:h.op=1
    ·exact ⟨tM [45],kK tx h true k++kPo h,by simp [kB,kP,e,o1],by decide⟩
    ·by_cases o2:h.op=2
     ·exact ⟨tM [33],kK tx h true k++kPo h,by simp [kB,kP,e,o2],by decide⟩
     ·by_cases o3:h.op=3
      ·exact ⟨tW [105,110,116],tM [40]::(kK tx h true k++kPo h),by simp [kB,kP,e,o3],by decide⟩
      ·exact ⟨tW [102,108,111,97,116],tM [40]::(kK tx h true k++kPo h),by simp [kB,kP,e,o1,o2,o3],by decide⟩
   ·have h2:k.len=2:=by simp [fitsE,e] at hfit;exact hfit.2.2.1
    cases k with
    | nil=>simp [Exs.len] at h2
    | cons x kx r =>
      obtain ⟨hRx,_⟩:=RX_kid hL
      obtain ⟨t,r',e',ht⟩:=ih x kx (by simp only [Exs.size] at hs;omega) hRx hN.1 hN.2.1
      by_cases hp:level x<kidL h true
      ·refine ⟨tM [40],(kB tx x kx++[tM [41]])++kK tx h false r++kPo h,?_,by decide⟩
       simp [kB,kP,e,kK,kPar,hp]
      ·refine ⟨t,r'++kK tx h false r++kPo h,?_,ht⟩
       have:kB tx h (.cons x kx r)=kB tx x kx++(kK tx h false r++kPo h):=by simp [kB,kP,e,kK,kPar,hp]
       rw [this,e']
       simp
   ·exact ⟨tW [105,110,112,117,116],kK tx h true k++kPo h,by simp [kB,kP,e],by decide⟩
theorem alone (x:EH) (k:Exs) (hR:RX rn cn x k) (hN:NnX k) (hk:x.kind=4∨x.kind=5) (g d:Nat) (rest:List Tok) (hg:(kB tx x k++tM [59]::rest).length<g) (hd:d≤32) (hD:dX x k 1 (d:Int)≤32) :
 named (E0 g) (C0 g) d (kB tx x k++tM [59]::rest)=some (.ok (⟨9,[]⟩,.cons x k .nil,.nil,.nil) rest)∧∃n r,kB tx x k=tN n::r∧rn n=0:=by
 obtain ⟨hfit,hnm,hlen,hL⟩:=fits_of L hR
 have hD2:dB x k (d:Int)≤32:=dX_no hD (by have:=level_r x;omega)
 have IH:∀h' k',RX rn cn h' k'→0≤h'.vb→NnX k'→k'.size<k.size→Kid tx h' k':=fun h' k' a b c _=>(kids L (k'.size+1) h' k' (by omega) a b c).1
 have hA:=args_ok L x hk k hlen hL hN IH g g d hd _ hD2 (tM [59]::rest)
 obtain ⟨kind,op,mod,name,vt,vb⟩:=x
 rcases hk with hk | hk
 ·simp only at hk
  subst hk
  simp [fitsE] at hfit
  obtain ⟨rfl,rfl,rfl,rfl⟩:=hfit
  have hn:rn name=0:=by simpa [nameE] using hnm
  have hT:kB tx ⟨4,0,[],name,0,0⟩ k++tM [59]::rest=tN name::tM [40]::(kK tx ⟨4,0,[],name,0,0⟩ true k++tM [41]::tM [59]::rest):=by simp [kB,kP,kPo]
  rw [hT] at hg ⊢
  simp only [List.length_cons] at hg hA
  refine ⟨?_,name,tM [40]::(kK tx ⟨4,0,[],name,0,0⟩ true k++[tM [41]]),by simp [kB,kP,kPo],hn⟩
  rw [named,refr,name_y,bd_ok,has_n (by decide),bd_ok]
  simp only [Bool.false_eq_true,if_false,bd_ok]
  rw [if_neg (by simp [tM]),C0,call,hA (by omega) (by omega),bd_ok,bd_ok,ended_ok]
  rfl
 ·simp only at hk
  subst hk
  simp [fitsE] at hfit
  obtain ⟨rfl,rfl,rfl⟩:=hfit
  have hm:orE (rn mod) (rn name)=0:=by simpa [nameE] using hnm
  have hT:kB tx ⟨5,0,mod,name,0,0⟩ k++tM [59]::rest=tN mod::tM [46]::tN name::tM [40]::(kK tx ⟨5,0,mod,name,0,0⟩ true k++tM [41]::tM [59]::rest):=by simp [kB,kP,kPo]
  rw [hT] at hg ⊢
  simp only [List.length_cons] at hg hA
  refine ⟨?_,mod,tM [46]::tN name::tM [40]::(kK tx ⟨5,0,mod,name,0,0⟩ true k++[tM [41]]),by simp [kB,kP,kPo],(orE_0 hm).1⟩
  rw [named,refr,name_y,bd_ok,has_y (by rfl),bd_ok]
  simp only [if_true,bd_ok]
  rw [name_y,bd_ok]
  simp only [bd_ok]
  rw [if_neg (by simp),C0,call,hA (by omega) (by omega),bd_ok,bd_ok,ended_ok]
  rfl
theorem stm_back (h:SH) (e:Exs) (b l:Sts) (g d:Nat) (B:Nat→List Tok→Ou Sts) (t:Tok) (rest:List Tok) (ht:t.x≠[101,108,115,101])
 (hH:errSH rn h e b.len l.len=0) (hE:errL rn cn e=0) (hN:NnX e) (hd:d≤32) (hD:dL e (d:Int) (d:Int)≤32)
 (hg:(kOne tx h e b l++t::rest).length<g)
 (HB:hasBody h.kind=true→∀r,(tM [123]::(kSt tx b++tM [125]::r)).length<g→B d (tM [123]::(kSt tx b++tM [125]::r))=some (.ok b r))
 (HL:h.kind=8∨0<l.len→∀r,(tM [123]::(kSt tx l++tM [125]::r)).length<g→B d (tM [123]::(kSt tx l++tM [125]::r))=some (.ok l r)) :
 stm (E0 g) (C0 g) B d (kOne tx h e b l++t::rest)=some (.ok (h,e,b,l) (t::rest))∧∃u r,kOne tx h e b l=u::r∧((∃n,u=tN n∧rn n=0)∨(u.x≠[101,108,115,101]∧u.x≠[125])):=by
 unfold errSH at hH
 obtain ⟨hfit,hnm⟩:=orE_0 hH
 have hfit:fitsS h e b.len l.len=true:=by
  by_cases e':fitsS h e b.len l.len=true
  ·exact e'
  ·rw [if_neg e'] at hfit;omega
 obtain ⟨kind,nm⟩:=h
 have hK:kind=1∨kind=2∨kind=3∨kind=4∨kind=5∨kind=6∨kind=7∨kind=8∨kind=9:=by
  unfold fitsS at hfit
  simp only at hfit
  repeat' split at hfit
  all_goals first | omega | cases hfit
 rcases hK with rfl | rfl | rfl | rfl | rfl | rfl | rfl | rfl | rfl
 ·simp [fitsS] at hfit
  obtain ⟨h1,h2,h3⟩:=hfit
  obtain ⟨x,k,rfl⟩:=one_of h1
  obtain rfl:=len0S h2
  obtain rfl:=len0S h3
  refine ⟨?_,_,_,rfl,Or.inr ⟨by decide,by decide⟩⟩
  have hT:kOne tx ⟨1,nm⟩ (.cons x k .nil) .nil .nil++t::rest=tW [108,101,116]::tN nm::tM [61]::(kF tx (.cons x k .nil)++tM [59]::t::rest):=by simp [kOne]
  rw [hT] at hg ⊢
  simp only [List.length_cons] at hg
  rw [stm,if_neg (by simp [tW]),if_pos (by rfl),name_y,bd_ok,asg,must_y (by rfl),bd_ok,lone_back L x k hE hN g d _ _ (Or.inl rfl) (by omega) hd (lone_dep hD),bd_ok,ended_ok]
 ·simp [fitsS] at hfit
  obtain ⟨h1,h2,h3⟩:=hfit
  obtain ⟨x,k,rfl⟩:=one_of h1
  obtain rfl:=len0S h2
  obtain rfl:=len0S h3
  have hn:rn nm=0:=by simpa [nameS] using hnm
  refine ⟨?_,_,_,rfl,Or.inl ⟨nm,rfl,hn⟩⟩
  have hT:kOne tx ⟨2,nm⟩ (.cons x k .nil) .nil .nil++t::rest=tN nm::tM [61]::(kF tx (.cons x k .nil)++tM [59]::t::rest):=by simp [kOne]
  rw [hT] at hg ⊢
  simp only [List.length_cons] at hg
  rw [stm,if_pos (by rfl),named,refr,name_y,bd_ok,has_n (by decide),bd_ok]
  simp only [Bool.false_eq_true,if_false,bd_ok]
  rw [if_pos ⟨trivial,by rfl⟩,asg,must_y (by rfl),bd_ok,lone_back L x k hE hN g d _ _ (Or.inl rfl) (by omega) hd (lone_dep hD),bd_ok,ended_ok]
 ·simp [fitsS] at hfit
  obtain ⟨h1,rfl⟩:=hfit
  obtain ⟨x,k,rfl⟩:=one_of h1
  refine ⟨?_,_,_,rfl,Or.inr ⟨by decide,by decide⟩⟩
  by_cases hl:0<l.len
  ·have hT:kOne tx ⟨3,[]⟩ (.cons x k .nil) b l++t::rest=tW [105,102]::(kF tx (.cons x k .nil)++tM [123]::(kSt tx b++tM [125]::tW [101,108,115,101]::tM [123]::(kSt tx l++tM [125]::t::rest))):=by simp [kOne,hl]
   rw [hT] at hg ⊢
   simp only [List.length_cons,List.length_append] at hg HB HL
   rw [stm,if_neg (by simp [tW]),if_neg (by decide),if_pos (by rfl),branch,lone_back L x k hE hN g d _ _ (Or.inr rfl) (by simp only [List.length_cons,List.length_append];omega) hd (lone_dep hD),bd_ok,HB rfl _ (by simp only [List.length_cons,List.length_append];omega),bd_ok,has_y (by rfl),bd_ok,if_pos (by rfl),HL (Or.inr hl) _ (by simp only [List.length_cons,List.length_append];omega),bd_ok]
  ·obtain rfl:=len0S (Nat.eq_zero_of_not_pos hl)
   have hT:kOne tx ⟨3,[]⟩ (.cons x k .nil) b .nil++t::rest=tW [105,102]::(kF tx (.cons x k .nil)++tM [123]::(kSt tx b++tM [125]::t::rest)):=by simp [kOne,hl]
   rw [hT] at hg ⊢
   simp only [List.length_cons,List.length_append] at hg HB
   rw [stm,if_neg (by simp [tW]),if_neg (by decide),if_pos (by rfl),branch,lone_back L x k hE hN g d _ _ (Or.inr rfl) (by simp only [List.length_cons,List.length_append];omega) hd (lone_dep hD),bd_ok,HB rfl _ (by simp only [List.length_cons,List.length_append];omega),bd_ok,has_n ht,bd_ok]
   rfl
 ·simp [fitsS] at hfit
  obtain ⟨h1,rfl,h3⟩:=hfit
  obtain ⟨x,k,rfl⟩:=one_of h1
  obtain rfl:=len0S h3
  refine ⟨?_,_,_,rfl,Or.inr ⟨by decide,by decide⟩⟩
  have hT:kOne tx ⟨4,[]⟩ (.cons x k .nil) b .nil++t::rest=tW [119,104,105,108,101]::(kF tx (.cons x k .nil)++tM [123]::(kSt tx b++tM [125]::t::rest)):=by simp [kOne]
  rw [hT] at hg ⊢
  simp only [List.length_cons,List.length_append] at hg HB
  rw [stm,if_neg (by simp [tW]),if_neg (by decide),if_neg (by decide),if_pos (by rfl),while_,lone_back L x k hE hN g d _ _ (Or.inr rfl) (by simp only [List.length_cons,List.length_append];omega) hd (lone_dep hD),bd_ok,HB rfl _ (by simp only [List.length_cons,List.length_append];omega),bd_ok]
 ·simp [fitsS] at hfit
  obtain ⟨h1,rfl,h2,h3⟩:=hfit
  obtain rfl:=len0S h2
  obtain rfl:=len0S h3
  refine ⟨?_,_,_,rfl,Or.inr ⟨by decide,by decide⟩⟩
  have hT:kOne tx ⟨5,[]⟩ e .nil .nil++t::rest=tW [114,101,116,117,114,110]::(kF tx e++tM [59]::t::rest):=by simp [kOne]
  rw [hT] at hg ⊢
  simp only [List.length_cons] at hg
  rw [stm,if_neg (by simp [tW]),if_neg (by decide),if_neg (by decide),if_neg (by decide),if_pos (by rfl)]
  cases e with
  | nil =>
    simp only [kF,List.nil_append]
    rw [returned,if_pos (by rfl),ended_ok]
  | cons x k r =>
    obtain ⟨_,_,e1⟩:=one_of (e:=.cons x k r) (by simp [Exs.len] at h1 ⊢;omega)
    cases e1
    obtain ⟨u,r',e2,hu⟩:=head_59 L _ x k (Nat.lt_succ_self _) (RX_kid hE).1 hN.1 hN.2.1
    have hb:=lone_back L x k hE hN g d _ (t::rest) (Or.inl (show (tM [59]).x=[59] from rfl)) (by omega) hd (lone_dep hD)
    rw [kF,e2,List.cons_append] at hb ⊢
    rw [returned,if_neg hu,hb,bd_ok,ended_ok]
 ·simp [fitsS] at hfit
  obtain ⟨h1,rfl,h2,h3⟩:=hfit
  obtain ⟨x,k,rfl⟩:=one_of h1
  obtain rfl:=len0S h2
  obtain rfl:=len0S h3
  refine ⟨?_,_,_,rfl,Or.inr ⟨by decide,by decide⟩⟩
  have hT:kOne tx ⟨6,[]⟩ (.cons x k .nil) .nil .nil++t::rest=tW [115,104,111,119]::(kF tx (.cons x k .nil)++tM [59]::t::rest):=by simp [kOne]
  rw [hT] at hg ⊢
  simp only [List.length_cons] at hg
  rw [stm,if_neg (by simp [tW]),if_neg (by decide),if_neg (by decide),if_neg (by decide),if_neg (by decide),if_pos (by rfl),lone_back L x k hE hN g d _ _ (Or.inl rfl) (by omega) hd (lone_dep hD),bd_ok,ended_ok]
 ·simp [fitsS] at hfit
  obtain ⟨h1,rfl,h2,h3⟩:=hfit
  obtain ⟨x,k,rfl⟩:=one_of h1
  obtain rfl:=len0S h2
  obtain rfl:=len0S h3
  refine ⟨?_,_,_,rfl,Or.inr ⟨by decide,by decide⟩⟩
  have hT:kOne tx ⟨7,[]⟩ (.cons x k .nil) .nil .nil++t::rest=tW [102,97,105,108]::(kF tx (.cons x k .nil)++tM [59]::t::rest):=by simp [kOne]
  rw [hT] at hg ⊢
  simp only [List.length_cons] at hg
  rw [stm,if_neg (by simp [tW]),if_neg (by decide),if_neg (by decide),if_neg (by decide),if_neg (by decide),if_neg (by decide),if_pos (by rfl),lone_back L x k hE hN g d _ _ (Or.inl rfl) (by omega) hd (lone_dep hD),bd_ok,ended_ok]
 ·simp [fitsS] at hfit
  obtain rfl:=len0 hfit
  refine ⟨?_,_,_,rfl,Or.inr ⟨by decide,by decide⟩⟩
  have hT:kOne tx ⟨8,nm⟩ .nil b l++t::rest=tW [116,114,121]::tM [123]::(kSt tx b++tM [125]::tW [99,97,116,99,104]::tN nm::tM [123]::(kSt tx l++tM [125]::t::rest)):=by simp [kOne]
  rw [hT] at hg ⊢
  simp only [List.length_cons,List.length_append] at hg HB HL
  rw [stm,if_neg (by simp [tW]),if_neg (by decide),if_neg (by decide),if_neg (by decide),if_neg (by decide),if_neg (by decide),if_neg (by decide),if_pos (by rfl),tried,HB rfl _ (by simp only [List.length_cons,List.length_append];omega),bd_ok,must_y (by rfl),bd_ok,name_y,bd_ok,HL (Or.inl (by trivial)) _ (by first | omega | (simp only [List.length_cons,List.length_append];omega)),bd_ok]
 ·simp [fitsS] at hfit
  obtain ⟨h1,hk,rfl,h2,h3⟩:=hfit
  obtain ⟨x,k,rfl⟩:=one_of h1
  obtain rfl:=len0S h2
  obtain rfl:=len0S h3
  have hT:kOne tx ⟨9,[]⟩ (.cons x k .nil) .nil .nil++t::rest=kB tx x k++tM [59]::t::rest:=by simp [kOne,kF]
  rw [hT] at hg ⊢
  obtain ⟨ha,n,r',e1,hn⟩:=alone L x k (RX_kid hE).1 hN.2.1 hk g d (t::rest) hg hd (lone_dep hD)
  refine ⟨?_,tN n,r'++[tM [59]],by simp [kOne,kF,e1],Or.inl ⟨n,rfl,hn⟩⟩
  rw [e1,List.cons_append] at ha ⊢
  rw [stm,if_pos (by rfl),ha]
theorem one_head (h:SH) (e:Exs) (b l:Sts) (hH:errSH rn h e b.len l.len=0) (hE:errL rn cn e=0) (hN:NnX e):∃u r,kOne tx h e b l=u::r∧((∃n,u=tN n∧rn n=0)∨(u.x≠[101,108,115,101]∧u.x≠[125])):=by
 unfold errSH at hH
 obtain ⟨hfit,hnm⟩:=orE_0 hH
 have hfit:fitsS h e b.len l.len=true:=by
  by_cases e':fitsS h e b.len l.len=true
  ·exact e'
  ·rw [if_neg e'] at hfit;omega
 obtain ⟨kind,nm⟩:=h
 have hK:kind=1∨kind=2∨kind=3∨kind=4∨kind=5∨kind=6∨kind=7∨kind=8∨kind=9:=by
  unfold fitsS at hfit
  simp only at hfit
  repeat' split at hfit
  all_goals first | omega | cases hfit
 rcases hK with rfl | rfl | rfl | rfl | rfl | rfl | rfl | rfl | rfl
 ·exact ⟨_,_,rfl,Or.inr ⟨by decide,by decide⟩⟩
 ·exact ⟨_,_,rfl,Or.inl ⟨nm,rfl,by simpa [nameS] using hnm⟩⟩
 ·exact ⟨_,_,rfl,Or.inr ⟨by decide,by decide⟩⟩
 ·exact ⟨_,_,rfl,Or.inr ⟨by decide,by decide⟩⟩
 ·exact ⟨_,_,rfl,Or.inr ⟨by decide,by decide⟩⟩
 ·exact ⟨_,_,rfl,Or.inr ⟨by decide,by decide⟩⟩
 ·exact ⟨_,_,rfl,Or.inr ⟨by decide,by decide⟩⟩
 ·exact ⟨_,_,rfl,Or.inr ⟨by decide,by decide⟩⟩
 ·simp [fitsS] at hfit
  obtain ⟨h1,hk,_⟩:=hfit
  obtain ⟨x,k,rfl⟩:=one_of h1
  obtain ⟨hf,hm,_,_⟩:=fits_of L (RX_kid hE).1
  simp only [Exs.kind0] at hk
  rcases hk with hk | hk
  ·exact ⟨tN x.name,[tM [40]]++kK tx x true k++kPo x++[tM [59]],by simp [kOne,kF,kB,kP,hk],Or.inl ⟨_,rfl,by simpa [nameE,hk] using hm⟩⟩
  ·have hm:orE (rn x.mod) (rn x.name)=0:=by simpa [nameE,hk] using hm
   exact ⟨tN x.mod,[tM [46],tN x.name,tM [40]]++kK tx x true k++kPo x++[tM [59]],by simp [kOne,kF,kB,kP,hk],Or.inl ⟨_,rfl,(orE_0 hm).1⟩⟩
omit L in
theorem one_len (h:SH) (e:Exs) (b l:Sts):(hasBody h.kind=true→(kSt tx b).length<(kOne tx h e b l).length)∧(h.kind=8∨0<l.len→errSH rn h e b.len l.len=0→(kSt tx l).length<(kOne tx h e b l).length):=by
 refine ⟨?_,?_⟩
 ·intro hB
  have:h.kind=3∨h.kind=4∨h.kind=8:=by simpa [hasBody,or_assoc] using hB
  unfold kOne
  rcases this with e' | e' | e'<;>rw [e']<;>simp<;>omega
 ·intro hL hH
  unfold errSH at hH
  obtain ⟨hfit,hnm⟩:=orE_0 hH
  have hfit:fitsS h e b.len l.len=true:=by
   by_cases e':fitsS h e b.len l.len=true
   ·exact e'
   ·rw [if_neg e'] at hfit;omega
  have:h.kind=8∨(h.kind=3∧0<l.len):=by
   rcases hL with hL | hL
   ·exact Or.inl hL
   ·unfold fitsS at hfit
    repeat' split at hfit
    all_goals first | (right;exact ⟨by assumption,hL⟩) | (left;assumption) | (exfalso;simp at hfit;done) | (exfalso;simp at hfit;omega)
  unfold kOne
  rcases this with e' | ⟨e',hl⟩<;>rw [e']<;>simp [*]<;>omega
end
end Pz
end
section
namespace Pz
open Lx Te
section
variable {rn:Bs→Int} {cn:Int→Int} {tx:Int→Int→Bs} (L:Law rn cn tx) (hEl:∀x,rn x=0→x≠[101,108,115,101])
def StOk (rn:Bs→Int) (cn:Int→Int) (tx:Int→Int→Bs) (g:Nat) (s:Sts):Prop:=∀(f d g':Nat) (acc:Sts) (a':Int) (rest:List Tok),errS rn cn s=0→NnS s→(kSt tx s++tM [125]::rest).length<g→(kSt tx s++tM [125]::rest).length≤g'→(kSt tx s).length≤f→d≤32→dS s (d:Int) a'≤32 →
 sts (stm (E0 g) (C0 g) (blk (E0 g) (C0 g) g f) d) g' acc (kSt tx s++tM [125]::rest)=some (.ok (acc.app s) (tM [125]::rest))
theorem blk_back (g:Nat) (s:Sts) (h:StOk rn cn tx g s) (f d:Nat) (rest:List Tok) (he:errS rn cn s=0) (hN:NnS s) (hg:(tM [123]::(kSt tx s++tM [125]::rest)).length<g) (hf:(kSt tx s).length<f) (hd:d≤32) (hD:dS s ((d:Int)+1) ((d:Int)+1)≤32) :
 blk (E0 g) (C0 g) g f d (tM [123]::(kSt tx s++tM [125]::rest))=some (.ok s rest):=by
 obtain ⟨f,rfl⟩:∃x,f=x+1:=⟨f - 1,by omega⟩
 have h1:=dS_acc s ((d:Int)+1) ((d:Int)+1)
 simp only [List.length_cons] at hg
 have hs:=h f (d+1) g .nil ((d:Int)+1) rest he hN (by omega) (by omega) (by omega) (by omega) (by simpa using hD)
 rw [blk,opn,if_pos (by rfl),if_neg (by omega),if_neg (by decide),bd_ok,hs,bd_ok,must_y (by rfl),bd_ok]
 rfl
include L hEl
theorem st_head (s:Sts) (he:errS rn cn s=0) (hN:NnS s) (g d:Nat) (hg:(kSt tx s++[tM [125]]).length+1<g):∀rest,∃t r,kSt tx s++tM [125]::rest=t::r∧t.x≠[101,108,115,101]∧(s = .nil∨t.x≠[125]):=by
 intro rest
 cases s with
 | nil=>exact ⟨tM [125],rest,rfl,by decide,Or.inl rfl⟩
 | cons h e b l r =>
   rw [errS] at he
   obtain ⟨h1,_⟩:=orE_0 he
   obtain ⟨h2,h3⟩:=orE_0 h1
   obtain ⟨h4,_⟩:=orE_0 h3
   obtain ⟨u,r',e1,e2⟩:=one_head L h e b l h2 h4 hN.1
   refine ⟨u,r'++(kSt tx r++tM [125]::rest),by rw [kSt_cons,e1];simp,?_,Or.inr ?_⟩
   ·rcases e2 with ⟨n,rfl,hn⟩ | e2
    ·exact hEl n hn
    ·exact e2.1
   ·rcases e2 with ⟨n,rfl,hn⟩ | e2
    ·obtain ⟨c,r'',e3,hc⟩:=L.nm n hn
     intro e4
     simp only [tN] at e4
     rw [e3] at e4
     cases e4
     revert hc;decide
    ·exact e2.2
theorem sts_back (g:Nat):∀(s:Sts),StOk rn cn tx g s:=by
 intro s
 induction s with
 | nil =>
   intro f d g' acc a' rest _ _ _ hg' _ _ _
   obtain ⟨g',rfl⟩:∃x,g'=x+1:=⟨g' - 1,by simp only [List.length_append,List.length_cons] at hg';omega⟩
   rw [kSt,List.nil_append,sts,if_pos (by rfl),Sts.app_nil]
 | cons h e b l r ihb ihl ihr =>
   intro f d g' acc a' rest he hN hg hg' hf hd hD
   have he0:=he
   rw [errS] at he
   obtain ⟨h1,h2⟩:=orE_0 he
   obtain ⟨hH,h3⟩:=orE_0 h1
   obtain ⟨hE,h4⟩:=orE_0 h3
   obtain ⟨hb,hl⟩:=orE_0 h4
   obtain ⟨n1,n2,n3,n4⟩:=hN
   obtain ⟨d1,d2,d3,acc',d4⟩:=dS_cons (by omega) (by omega) hD
   obtain ⟨u,ru,e1,e2⟩:=one_head L h e b l hH hE n1
   have hlen:0<(kOne tx h e b l).length:=by rw [e1];simp
   have hbl:=one_len (rn:=rn) (tx:=tx) h e b l
   rw [kSt_cons] at hg hg' hf ⊢
   simp only [List.length_append] at hf
   have hl0:(kOne tx h e b l++kSt tx r++tM [125]::rest).length=(kOne tx h e b l).length+(kSt tx r).length+(rest.length+1):=by simp only [List.length_append,List.length_cons]
   rw [hl0] at hg hg'
   obtain ⟨t,r',e3,e4,_⟩:=st_head L hEl r h2 n4 (((kSt tx r++[tM [125]]).length+1)+1) d (by omega) rest
   have e3l:(kSt tx r).length+(rest.length+1)=r'.length+1:=by have:=congrArg List.length e3;simp only [List.length_append,List.length_cons] at this;exact this
   have hs:=stm_back L h e b l g d (blk (E0 g) (C0 g) g f) t r' e4 hH hE n1 hd d1 (by simp only [List.length_append,List.length_cons];omega)
    (fun hB r0 hr0=>blk_back g b ihb f d r0 hb n2 hr0 (by have:=hbl.1 hB;omega) hd (d2 (Or.inl hB)))
    (fun hL r0 hr0=>blk_back g l ihl f d r0 hl n3 hr0 (by have:=hbl.2 hL hH;omega) hd (d3 hL))
   have hr:=ihr f d (g' - 1) (acc.app (.cons h e b l .nil)) acc' rest h2 n4 (by simp only [List.length_append,List.length_cons];omega) (by simp only [List.length_append,List.length_cons];omega) (by omega) hd d4
   obtain ⟨g',rfl⟩:∃x,g'=x+1:=⟨g' - 1,by omega⟩
   rw [Nat.add_sub_cancel] at hr
   have hu:u.x≠[125]:=by
    rcases e2 with ⟨n,rfl,hn⟩ | e2
    ·obtain ⟨c,r'',e3,hc⟩:=L.nm n hn
     intro e4
     simp only [tN] at e4
     rw [e3] at e4
     cases e4
     revert hc;decide
    ·exact e2.2
   rw [e1,List.cons_append] at hs
   rw [List.append_assoc,e3,e1,List.cons_append,sts,if_neg hu,hs.1,bd_ok,←e3,hr,Sts.app_assoc]
   rfl
end
end Pz
end
section
namespace Pz
open Lx Te
def tyW (t:Int):Bs:=if t=1 then [105,110,116] else if t=2 then [102,108,111,97,116] else [98,111,111,108]
def kTy (t:Int):List Tok:=if t=0 then [] else [tM [58],tW (tyW t)]
def kP1 (p:Pa):List Tok:=tN p.name::kTy p.type
def kPa:List Pa→List Tok
 | []=>[]
 | p::r=>kP1 p++r.flatMap (fun q=>tM [44]::kP1 q)
def kEx (b:Bool):List Tok:=if b then [tW [101,120,112,111,114,116]] else []
section
variable (tx:Int→Int→Bs)
def kHo (d:De):List Tok:=tN d.name::(kTy d.type++tM [61]::(kF tx d.e++[tM [59]]))
def kFn (d:De):List Tok:=tN d.name::tM [40]::(kPa d.params++tM [41]::(kTy d.type++tM [123]::(kSt tx d.body++[tM [125]])))
def kDe (d:De):List Tok :=
 if d.kind=1 then kEx d.ex++tW [99,111,110,115,116]::kHo tx d
 else if d.kind=2 then tW [118,97,114]::kHo tx d
 else kEx d.ex++tW [102,110]::kFn tx d
def kIm (x:Bs):List Tok:=[tW [105,109,112,111,114,116],tN x,tM [59]]
def kMo (m:Mo):List Tok:=tW [109,111,100,117,108,101]::tN m.name::tM [59]::(m.imports.flatMap kIm++m.decls.flatMap (kDe tx))
end
def NnD (d:De):Prop:=NnX d.e∧NnS d.body
theorem isTy_c {t:Int} (h:isTy t=true):t=1∨t=2∨t=3:=by
 simpa [isTy,or_assoc] using h
theorem typ_ok {t:Int} (h:isTy t=true) (rest:List Tok):∃r,kTy t++rest=tM [58]::r∧typ r=some (.ok t rest):=by
 rcases isTy_c h with rfl | rfl | rfl
 ·exact ⟨_,rfl,rfl⟩
 ·exact ⟨_,rfl,rfl⟩
 ·exact ⟨_,rfl,rfl⟩
theorem par1_ok (p:Pa) (h:isTy p.type=true) (rest:List Tok):par1 false (kP1 p++rest)=some (.ok p rest):=by
 obtain ⟨r,e1,e2⟩:=typ_ok h rest
 rw [kP1,List.cons_append,e1,par1,name_y,bd_ok,must_y (by rfl),bd_ok,e2,bd_ok]
theorem rwP_ok:∀(ps:List Pa) (g:Nat) (acc:List Pa) (rest:List Tok),(∀p∈ps,isTy p.type=true)→acc.length+ps.length≤8→ps.length<g→rwP g acc (ps.flatMap (fun q=>tM [44]::kP1 q)++tM [41]::rest)=some (.ok (acc++ps) (tM [41]::rest))
 | [],g,acc,rest,_,_,hg=>by
   obtain ⟨g,rfl⟩:∃x,g=x+1:=⟨g - 1,by simp at hg;omega⟩
   rw [List.flatMap_nil,List.nil_append,rwP,if_neg (by decide),List.append_nil]
 | p::ps,g,acc,rest,hp,hl,hg=>by
   obtain ⟨g,rfl⟩:∃x,g=x+1:=⟨g - 1,by simp at hg;omega⟩
   simp only [List.length_cons] at hl hg
   have hf:(acc.length == 8)=false:=by simp;omega
   rw [List.flatMap_cons,List.append_assoc,List.cons_append,rwP,if_pos (by rfl),hf,par1_ok p (hp p (by simp)),bd_ok,rwP_ok ps g (acc++[p]) rest (fun q hq=>hp q (by simp [hq])) (by simp only [List.length_append,List.length_cons,List.length_nil];omega) (by omega)]
   simp
section
variable {rn:Bs→Int} {cn:Int→Int} {tx:Int→Int→Bs} (L:Law rn cn tx) (hEl:∀x,rn x=0→x≠[101,108,115,101])
theorem errP_of:∀(ps:List Pa),errP rn ps=0→∀p∈ps,rn p.name=0∧isTy p.type=true
 | [],_,p,hp=>by simp at hp
 | q::ps,h,p,hp=>by
   rw [errP] at h
   obtain ⟨h1,h2⟩:=orE_0 h
   obtain ⟨h3,h4⟩:=orE_0 h1
   rcases List.mem_cons.1 hp with rfl | hp
   ·refine ⟨h3,?_⟩
    by_cases e:isTy p.type=true
    ·exact e
    ·rw [if_neg e] at h4;omega
   ·exact errP_of ps h2 p hp
include L
theorem params_ok (ps:List Pa) (hp:∀p∈ps,rn p.name=0∧isTy p.type=true) (hl:ps.length≤8) (g:Nat) (hg:ps.length<g) (rest:List Tok):params g (kPa ps++tM [41]::rest)=some (.ok ps (tM [41]::rest)):=by
 cases ps with
 | nil=>rfl
 | cons p r =>
   obtain ⟨h1,h2⟩:=hp p (by simp)
   have hn:=(nm_no L h1).2.2
   have hb:=par1_ok p h2 (r.flatMap (fun q=>tM [44]::kP1 q)++tM [41]::rest)
   rw [kPa,List.append_assoc]
   rw [kP1,List.cons_append] at hb ⊢
   simp only [List.length_cons] at hl hg
   rw [params,if_neg (by simpa [tN] using hn),hb,bd_ok,rwP_ok r g [p] rest (fun q hq=>(hp q (by simp [hq])).2) (by simp only [List.length_cons,List.length_nil];omega) (by omega)]
   rfl
theorem holder_ok (d:De) (kind:Int) (hk:d.kind=kind) (hp:d.params=[]) (hb:d.body = .nil) (h1:isTy d.type=true) (h2:d.e.len=1) (hE:errL rn cn d.e=0) (hN:NnX d.e) (hD:dL d.e 0 0≤32) (g:Nat) (rest:List Tok) (hg:(kHo tx d++rest).length<g) :
 holder (E0 g) kind d.ex (kHo tx d++rest)=some (.ok d rest):=by
 obtain ⟨kind',ex,nm,ty,ps,e,body⟩:=d
 simp only at hk hp hb h1 h2 hE hN hD ⊢
 subst hk hp hb
 obtain ⟨x,k,rfl⟩:=one_of h2
 obtain ⟨r,e1,e2⟩:=typ_ok h1 (tM [61]::(kF tx (.cons x k .nil)++tM [59]::rest))
 have hT:kHo tx ⟨kind',ex,nm,ty,[],.cons x k .nil,.nil⟩++rest=tN nm::(kTy ty++tM [61]::(kF tx (.cons x k .nil)++tM [59]::rest)):=by simp [kHo]
 rw [hT] at hg ⊢
 simp only [List.length_cons,List.length_append] at hg
 rw [e1,holder,name_y,bd_ok,must_y (by rfl),bd_ok,e2,bd_ok,must_y (by rfl),bd_ok,lone_back L x k hE hN g 0 _ _ (Or.inl rfl) (by simp only [List.length_cons,List.length_append];omega) (by omega) (by simpa using lone_dep hD),bd_ok,must_y (by rfl),bd_ok]
include hEl
theorem fnc_ok (d:De) (hk:d.kind=3) (he:d.e = .nil) (h1:d.type=0∨isTy d.type=true) (hp:∀p∈d.params,rn p.name=0∧isTy p.type=true) (hl:d.params.length≤8) (hS:errS rn cn d.body=0) (hN:NnS d.body) (hD:dS d.body 1 1≤32) (g:Nat) (rest:List Tok) (hg:(kFn tx d++rest).length<g) :
 fnc (B0 g) g d.ex (kFn tx d++rest)=some (.ok d rest):=by
 obtain ⟨kind',ex,nm,ty,ps,e,body⟩:=d
 simp only at hk he h1 hp hl hS hN hD ⊢
 subst hk he
 have hT:kFn tx ⟨3,ex,nm,ty,ps,.nil,body⟩++rest=tN nm::tM [40]::(kPa ps++tM [41]::(kTy ty++tM [123]::(kSt tx body++tM [125]::rest))):=by simp [kFn]
 rw [hT] at hg ⊢
 simp only [List.length_cons,List.length_append] at hg
 have hpl:ps.length≤(kPa ps).length:=by
  cases ps with
  | nil=>simp
  | cons p r =>
    have:r.length≤(r.flatMap (fun q=>tM [44]::kP1 q)).length:=by
     clear hp hl hT hg
     induction r with
     | nil=>simp
     | cons q r ih=>simp only [List.flatMap_cons,List.length_append,List.length_cons];omega
    have h1:1≤(kP1 p).length:=by simp [kP1]
    simp only [kPa,List.length_append,List.length_cons]
    omega
 have hres:result (kTy ty++tM [123]::(kSt tx body++tM [125]::rest))=some (.ok ty (tM [123]::(kSt tx body++tM [125]::rest))):=by
  rcases h1 with rfl | h1
  ·rw [kTy,if_pos rfl,List.nil_append,result,has_n (by decide),bd_ok]
   rfl
  ·obtain ⟨r,e1,e2⟩:=typ_ok h1 (tM [123]::(kSt tx body++tM [125]::rest))
   rw [e1,result,has_y (by rfl),bd_ok,if_pos rfl,e2]
 have hb:=blk_back g body (sts_back L hEl g body) g 0 rest hS hN (by simp only [List.length_cons,List.length_append];omega) (by omega) (by omega) (by simpa using hD)
 rw [fnc,name_y,bd_ok,must_y (by rfl),bd_ok,params_ok L ps hp hl g (by omega),bd_ok,must_y (by rfl),bd_ok,hres,bd_ok,B0,hb,bd_ok]
end
end Pz
end
section
namespace Pz
open Lx Te
abbrev Al (a b:List Tok):Prop:=a.map Tok.core=b.map Tok.core
def Rl {α:Type} (m m':Ou α):Prop :=
 match m,m' with
 | none,none=>True
 | some (.er _ c),some (.er _ c')=>c=c'
 | some (.ok a ts),some (.ok a' ts')=>a=a'∧Al ts ts'
 | _,_=>False
theorem Rl.bd {α β:Type} {m m':Ou α} {k k':α→List Tok→Ou β} (h:Rl m m') (hk:∀a ts ts',Al ts ts'→Rl (k a ts) (k' a ts')):Rl (bd m k) (bd m' k'):=by
 match m,m',h with
 | none,none,_=>exact trivial
 | some (.er p c),some (.er p' c'),h=>exact h
 | some (.ok a ts),some (.ok a' ts'),⟨e,h⟩=>subst e;exact hk a ts ts' h
theorem Rl.ite {α:Type} {c:Prop} [Decidable c] {a a' b b':Ou α} (h1:Rl a a') (h2:Rl b b'):Rl (if c then a else b) (if c then a' else b'):=by
 split
 ·exact h1
 ·exact h2
theorem Rl.er {α:Type} (p p':Nat) (c:Int):Rl (some (.er p c):Ou α) (some (.er p' c)):=rfl
theorem Al.two {a b:List Tok} (h:Al a b):(a=[]∧b=[])∨∃t t' r r',a=t::r∧b=t'::r'∧t.k=t'.k∧t.x=t'.x∧t.ty=t'.ty∧t.b=t'.b∧Al r r':=by
 match a,b,h with
 | [],[],_=>exact Or.inl ⟨rfl,rfl⟩
 | [],_::_,h=>simp [Al] at h
 | _::_,[],h=>simp [Al] at h
 | t::r,t'::r',h =>
   simp only [Al,List.map_cons,List.cons.injEq,Tok.core,Prod.mk.injEq] at h
   exact Or.inr ⟨t,t',r,r',rfl,rfl,h.1.1,h.1.2.1,h.1.2.2.1,h.1.2.2.2,h.2⟩
theorem must_al (s:Bs) (fl:Bool) {a b:List Tok} (h:Al a b):Rl (must s fl a) (must s fl b):=by
 rcases h.two with ⟨rfl,rfl⟩ | ⟨t,t',r,r',rfl,rfl,h1,h2,h3,h4,hr⟩
 ·exact trivial
 ·simp only [must,h2]
  repeat' split
  all_goals first | exact rfl | exact ⟨rfl,hr⟩
theorem has_al (s:Bs) (fl:Bool) {a b:List Tok} (h:Al a b):Rl (has s fl a) (has s fl b):=by
 rcases h.two with ⟨rfl,rfl⟩ | ⟨t,t',r,r',rfl,rfl,h1,h2,h3,h4,hr⟩
 ·exact trivial
 ·simp only [has,h2]
  repeat' split
  all_goals first | exact rfl | exact ⟨rfl,hr⟩ | exact ⟨rfl,h⟩
theorem name_al (fl:Bool) {a b:List Tok} (h:Al a b):Rl (name fl a) (name fl b):=by
 rcases h.two with ⟨rfl,rfl⟩ | ⟨t,t',r,r',rfl,rfl,h1,h2,h3,h4,hr⟩
 ·exact trivial
 ·simp only [name,h1,h2]
  repeat' split
  all_goals first | exact rfl | exact ⟨rfl,hr⟩
theorem opn_al (s:Bs) (fl:Bool) (d:Nat) {a b:List Tok} (h:Al a b):Rl (opn s fl d a) (opn s fl d b):=by
 rcases h.two with ⟨rfl,rfl⟩ | ⟨t,t',r,r',rfl,rfl,h1,h2,h3,h4,hr⟩
 ·exact trivial
 ·simp only [opn,h2]
  repeat' split
  all_goals first | exact rfl | exact ⟨rfl,hr⟩
theorem refr_al (fl:Bool) {a b:List Tok} (h:Al a b):Rl (refr fl a) (refr fl b):=by
 refine (name_al fl h).bd fun n ts ts' h=>(has_al [46] false h).bd fun y ts ts' h=>?_
 split
 ·exact (name_al false h).bd fun m ts ts' h=>⟨rfl,h⟩
 ·exact ⟨rfl,h⟩
def AE (E:Bool→Nat→List Tok→Ou Ex):Prop:=∀fl d a b,Al a b→Rl (E fl d a) (E fl d b)
section
variable {E:Bool→Nat→List Tok→Ou Ex} (hE:AE E)
include hE
theorem ins_al (fl:Bool) (d:Nat) {a b:List Tok} (h:Al a b):Rl (ins E fl d a) (ins E fl d b) :=
 (opn_al [40] fl d h).bd fun _ ts ts' h=>(hE false (d+1) ts ts' h).bd fun e ts ts' h=>(must_al [41] false h).bd fun _ ts ts' h=>⟨rfl,h⟩
theorem rwE_al (d:Nat):∀(g:Nat) (acc:Exs) (a b:List Tok),Al a b→Rl (rwE E d g acc a) (rwE E d g acc b):=by
 intro g
 induction g with
 | zero=>intro acc a b h;simp only [rwE];exact trivial
 | succ g ih =>
   intro acc a b h
   rcases h.two with ⟨rfl,rfl⟩ | ⟨t,t',r,r',rfl,rfl,h1,h2,h3,h4,hr⟩
   ·simp only [rwE];exact trivial
   ·simp only [rwE,h2]
    split
    ·exact (hE _ d r r' hr).bd fun e ts ts' h=>ih _ ts ts' h
    ·exact ⟨rfl,h⟩
theorem args_al (g d:Nat) {a b:List Tok} (h:Al a b):Rl (args E g d a) (args E g d b):=by
 rcases h.two with ⟨rfl,rfl⟩ | ⟨t,t',r,r',rfl,rfl,h1,h2,h3,h4,hr⟩
 ·exact trivial
 ·rcases hr.two with ⟨rfl,rfl⟩ | ⟨u,u',r2,r2',rfl,rfl,g1,g2,g3,g4,hr2⟩
  ·simp only [args,h2]
   split
   ·exact trivial
   ·exact rfl
  ·simp only [args,h2,g2]
   split
   ·exact ⟨rfl,hr2⟩
   ·exact (opn_al [40] false d h).bd fun _ ts ts' h=>(hE false (d+1) ts ts' h).bd fun e ts ts' h=>(rwE_al hE (d+1) g _ ts ts' h).bd fun l ts ts' h=>(must_al [41] false h).bd fun _ ts ts' h=>⟨rfl,h⟩
theorem call_al (g d:Nat) (e:Ex) {a b:List Tok} (h:Al a b):Rl (call E g d e a) (call E g d e b) :=
 (args_al hE g d h).bd fun l ts ts' h=>⟨rfl,h⟩
theorem pr_al (g:Nat) (fl:Bool) (d:Nat) {a b:List Tok} (h:Al a b):Rl (pr E g fl d a) (pr E g fl d b):=by
 rcases h.two with ⟨rfl,rfl⟩ | ⟨t,t',r,r',rfl,rfl,h1,h2,h3,h4,hr⟩
 ·exact trivial
 ·simp only [pr,h1,h2,h3,h4]
  repeat' refine Rl.ite ?_ ?_
  all_goals first
   | exact rfl
   | exact ⟨rfl,hr⟩
   | exact (ins_al hE false d hr).bd fun e ts ts' h=>⟨rfl,h⟩
   | exact ins_al hE fl d h
   | (refine (refr_al fl h).bd fun e ts ts' h=>?_
      rcases h.two with ⟨rfl,rfl⟩ | ⟨u,u',r2,r2',rfl,rfl,g1,g2,g3,g4,hr2⟩
      ·exact trivial
      ·simp only [g2]
       split
       ·exact call_al hE g d e h
       ·exact ⟨rfl,h⟩)
theorem un_al (g:Nat):∀(f:Nat) (fl:Bool) (d:Nat) (a b:List Tok),Al a b→Rl (un E g f fl d a) (un E g f fl d b):=by
 intro f
 induction f with
 | zero=>intro fl d a b h;simp only [un];exact trivial
 | succ f ih =>
   intro fl d a b h
   rcases h.two with ⟨rfl,rfl⟩ | ⟨t,t',r,r',rfl,rfl,h1,h2,h3,h4,hr⟩
   ·simp only [un];exact trivial
   ·simp only [un,h2]
    split
    ·exact (opn_al [45] fl d h).bd fun _ ts ts' h=>(ih false (d+1) ts ts' h).bd fun e ts ts' h=>⟨rfl,h⟩
    ·split
     ·exact (opn_al [33] fl d h).bd fun _ ts ts' h=>(ih false (d+1) ts ts' h).bd fun e ts ts' h=>⟨rfl,h⟩
     ·exact pr_al hE g fl d h
end
theorem lp_al (N:List Tok→Ou Ex) (lv:Nat) (hN:∀a b,Al a b→Rl (N a) (N b)):∀(f:Nat) (e:Ex) (a b:List Tok),Al a b→Rl (lp N lv f e a) (lp N lv f e b):=by
 intro f
 induction f with
 | zero=>intro e a b h;simp only [lp];exact trivial
 | succ f ih =>
   intro e a b h
   rcases h.two with ⟨rfl,rfl⟩ | ⟨t,t',r,r',rfl,rfl,h1,h2,h3,h4,hr⟩
   ·simp only [lp];exact trivial
   ·simp only [lp,h2]
    split
    ·exact ⟨rfl,h⟩
    ·refine (hN r r' hr).bd fun e2 ts ts' h=>?_
     split
     ·exact ⟨rfl,h⟩
     ·exact ih _ ts ts' h
theorem two_al {E:Bool→Nat→List Tok→Ou Ex} (hE:AE E) (g:Nat):∀(m:Nat) (fl:Bool) (d:Nat) (a b:List Tok),Al a b→Rl (two E g m fl d a) (two E g m fl d b):=by
 intro m
 induction m with
 | zero=>intro fl d a b h;simp only [two];exact un_al hE g g fl d a b h
 | succ m ih=>intro fl d a b h;simp only [two];exact (ih fl d a b h).bd fun e ts ts' h=>lp_al _ _ (fun a b h=>ih false d a b h) g e ts ts' h
theorem expr_al:∀(f:Nat),AE (expr f):=by
 intro f
 induction f with
 | zero=>intro fl d a b h;exact trivial
 | succ f ih=>intro fl d a b h;simp only [expr];exact two_al ih (f+1) 5 fl d a b h
section
variable {E:Nat→List Tok→Ou Ex} (hE:∀d a b,Al a b→Rl (E d a) (E d b))
theorem ended_al (kind:Int) (nm:Bs) (e:Exs) {a b:List Tok} (h:Al a b):Rl (ended kind nm e a) (ended kind nm e b):=(must_al [59] false h).bd fun _ ts ts' h=>⟨rfl,h⟩
include hE
theorem lone_al (d:Nat) {a b:List Tok} (h:Al a b):Rl (lone E d a) (lone E d b):=(hE d a b h).bd fun e ts ts' h=>⟨rfl,h⟩
theorem asg_al (d:Nat) (kind:Int) (nm:Bs) {a b:List Tok} (h:Al a b):Rl (asg E d kind nm a) (asg E d kind nm b) :=
 (must_al [61] false h).bd fun _ ts ts' h=>(lone_al hE d h).bd fun e ts ts' h=>ended_al kind nm e h
theorem returned_al (d:Nat) {a b:List Tok} (h:Al a b):Rl (returned E d a) (returned E d b):=by
 rcases h.two with ⟨rfl,rfl⟩ | ⟨t,t',r,r',rfl,rfl,h1,h2,h3,h4,hr⟩
 ·exact trivial
 ·simp only [returned,h2]
  split
  ·exact ended_al 5 [] .nil h
  ·exact (lone_al hE d h).bd fun e ts ts' h=>ended_al 5 [] e h
variable {C:Nat→Ex→List Tok→Ou Ex} (hC:∀d e a b,Al a b→Rl (C d e a) (C d e b))
include hC in
theorem named_al (d:Nat) {a b:List Tok} (h:Al a b):Rl (named E C d a) (named E C d b):=by
 refine (refr_al false h).bd fun e ts ts' h=>?_
 rcases h.two with ⟨rfl,rfl⟩ | ⟨t,t',r,r',rfl,rfl,h1,h2,h3,h4,hr⟩
 ·exact trivial
 ·simp only [h2]
  split
  ·exact asg_al hE d 2 e.1.name h
  ·exact (hC d e _ _ h).bd fun c ts ts' h=>ended_al 9 [] _ h
variable {B:Nat→List Tok→Ou Sts} (hB:∀d a b,Al a b→Rl (B d a) (B d b))
include hB in
theorem branch_al (d:Nat) {a b:List Tok} (h:Al a b):Rl (branch E B d a) (branch E B d b):=by
 refine (lone_al hE d h).bd fun e ts ts' h=>(hB d ts ts' h).bd fun x ts ts' h=>(has_al _ false h).bd fun y ts ts' h=>?_
 split
 ·exact (hB d ts ts' h).bd fun l ts ts' h=>⟨rfl,h⟩
 ·exact ⟨rfl,h⟩
include hB in
theorem while_al (d:Nat) {a b:List Tok} (h:Al a b):Rl (while_ E B d a) (while_ E B d b) :=
 (lone_al hE d h).bd fun e ts ts' h=>(hB d ts ts' h).bd fun x ts ts' h=>⟨rfl,h⟩
include hB in
omit hE in
theorem tried_al (d:Nat) {a b:List Tok} (h:Al a b):Rl (tried B d a) (tried B d b) :=
 (hB d a b h).bd fun x ts ts' h=>(must_al _ false h).bd fun _ ts ts' h=>(name_al false h).bd fun n ts ts' h=>(hB d ts ts' h).bd fun l ts ts' h=>⟨rfl,h⟩
include hC hB in
theorem stm_al (d:Nat) {a b:List Tok} (h:Al a b):Rl (stm E C B d a) (stm E C B d b):=by
 rcases h.two with ⟨rfl,rfl⟩ | ⟨t,t',r,r',rfl,rfl,h1,h2,h3,h4,hr⟩
 ·exact trivial
 ·simp only [stm,h1,h2]
  repeat' split
  ·exact named_al hE hC d h
  ·exact (name_al false hr).bd fun n ts ts' h=>asg_al hE d 1 n h
  ·exact branch_al hE hB d hr
  ·exact while_al hE hB d hr
  ·exact returned_al hE d hr
  ·exact (lone_al hE d hr).bd fun e ts ts' h=>ended_al 6 [] e h
  ·exact (lone_al hE d hr).bd fun e ts ts' h=>ended_al 7 [] e h
  ·exact tried_al hB d hr
  ·exact rfl
end
theorem sts_al (S:List Tok→Ou St) (hS:∀a b,Al a b→Rl (S a) (S b)):∀(g:Nat) (acc:Sts) (a b:List Tok),Al a b→Rl (sts S g acc a) (sts S g acc b):=by
 intro g
 induction g with
 | zero=>intro acc a b h;simp only [sts];exact trivial
 | succ g ih =>
   intro acc a b h
   rcases h.two with ⟨rfl,rfl⟩ | ⟨t,t',r,r',rfl,rfl,h1,h2,h3,h4,hr⟩
   ·simp only [sts];exact trivial
   ·simp only [sts,h2]
    split
    ·exact ⟨rfl,h⟩
    ·exact (hS _ _ h).bd fun s ts ts' h=>ih _ ts ts' h
theorem blk_al {E:Nat→List Tok→Ou Ex} {C:Nat→Ex→List Tok→Ou Ex} (g:Nat) (hE:∀d a b,Al a b→Rl (E d a) (E d b)) (hC:∀d e a b,Al a b→Rl (C d e a) (C d e b)):∀(f:Nat) (d:Nat) (a b:List Tok),Al a b→Rl (blk E C g f d a) (blk E C g f d b):=by
 intro f
 induction f with
 | zero=>intro d a b h;simp only [blk];exact trivial
 | succ f ih =>
   intro d a b h
   simp only [blk]
   exact (opn_al _ false d h).bd fun _ ts ts' h=>(sts_al _ (fun a b h=>stm_al hE hC ih (d+1) h) g .nil ts ts' h).bd fun l ts ts' h=>(must_al _ false h).bd fun _ ts ts' h=>⟨rfl,h⟩
theorem typ_al {a b:List Tok} (h:Al a b):Rl (typ a) (typ b):=by
 rcases h.two with ⟨rfl,rfl⟩ | ⟨t,t',r,r',rfl,rfl,h1,h2,h3,h4,hr⟩
 ·exact trivial
 ·simp only [typ,h2]
  repeat' split
  all_goals first | exact rfl | exact ⟨rfl,hr⟩
theorem par1_al (fl:Bool) {a b:List Tok} (h:Al a b):Rl (par1 fl a) (par1 fl b) :=
 (name_al fl h).bd fun n ts ts' h=>(must_al [58] false h).bd fun _ ts ts' h=>(typ_al h).bd fun t ts ts' h=>⟨rfl,h⟩
theorem rwP_al:∀(g:Nat) (acc:List Pa) (a b:List Tok),Al a b→Rl (rwP g acc a) (rwP g acc b):=by
 intro g
 induction g with
 | zero=>intro acc a b h;simp only [rwP];exact trivial
 | succ g ih =>
   intro acc a b h
   rcases h.two with ⟨rfl,rfl⟩ | ⟨t,t',r,r',rfl,rfl,h1,h2,h3,h4,hr⟩
   ·simp only [rwP];exact trivial
   ·simp only [rwP,h2]
    split
    ·exact (par1_al _ hr).bd fun e ts ts' h=>ih _ ts ts' h
    ·exact ⟨rfl,h⟩
theorem params_al (g:Nat) {a b:List Tok} (h:Al a b):Rl (params g a) (params g b):=by
 rcases h.two with ⟨rfl,rfl⟩ | ⟨t,t',r,r',rfl,rfl,h1,h2,h3,h4,hr⟩
 ·exact trivial
 ·simp only [params,h2]
  split
  ·exact ⟨rfl,h⟩
  ·exact (par1_al false h).bd fun p ts ts' h=>rwP_al g [p] ts ts' h
theorem result_al {a b:List Tok} (h:Al a b):Rl (result a) (result b):=by
 refine (has_al [58] false h).bd fun y ts ts' h=>?_
 split
 ·exact typ_al h
 ·exact ⟨rfl,h⟩
section
variable {E:Nat→List Tok→Ou Ex} (hE:∀d a b,Al a b→Rl (E d a) (E d b))
variable {B:Nat→List Tok→Ou Sts} (hB:∀d a b,Al a b→Rl (B d a) (B d b)) (g:Nat)
include hE in
theorem holder_al (kind:Int) (ex:Bool) {a b:List Tok} (h:Al a b):Rl (holder E kind ex a) (holder E kind ex b) :=
 (name_al false h).bd fun n ts ts' h=>(must_al [58] false h).bd fun _ ts ts' h=>(typ_al h).bd fun t ts ts' h=>(must_al [61] false h).bd fun _ ts ts' h=>(lone_al hE 0 h).bd fun e ts ts' h=>(must_al [59] false h).bd fun _ ts ts' h=>⟨rfl,h⟩
include hB in
theorem fnc_al (ex:Bool) {a b:List Tok} (h:Al a b):Rl (fnc B g ex a) (fnc B g ex b) :=
 (name_al false h).bd fun n ts ts' h=>(must_al [40] false h).bd fun _ ts ts' h=>(params_al g h).bd fun ps ts ts' h=>(must_al [41] false h).bd fun _ ts ts' h=>(result_al h).bd fun t ts ts' h=>(hB 0 ts ts' h).bd fun x ts ts' h=>⟨rfl,h⟩
include hE hB
theorem dcl2_al (ex fl:Bool) {a b:List Tok} (h:Al a b):Rl (dcl2 E B g ex fl a) (dcl2 E B g ex fl b):=by
 rcases h.two with ⟨rfl,rfl⟩ | ⟨t,t',r,r',rfl,rfl,h1,h2,h3,h4,hr⟩
 ·exact trivial
 ·simp only [dcl2,h2]
  repeat' split
  all_goals first | exact rfl | exact holder_al hE _ ex hr | exact fnc_al hB g ex hr
theorem dcl_al (fl:Bool) {a b:List Tok} (h:Al a b):Rl (dcl E B g fl a) (dcl E B g fl b):=by
 rcases h.two with ⟨rfl,rfl⟩ | ⟨t,t',r,r',rfl,rfl,h1,h2,h3,h4,hr⟩
 ·exact trivial
 ·simp only [dcl,h2]
  repeat' split
  all_goals first | exact rfl | exact dcl2_al hE hB g true false hr | exact dcl2_al hE hB g false fl h
theorem dcls_al:∀(f:Nat) (acc:List De) (a b:List Tok),Al a b→Rl (dcls E B g f acc a) (dcls E B g f acc b):=by
 intro f
 induction f with
 | zero=>intro acc a b h;simp only [dcls];exact trivial
 | succ f ih =>
   intro acc a b h
   rcases h.two with ⟨rfl,rfl⟩ | ⟨t,t',r,r',rfl,rfl,h1,h2,h3,h4,hr⟩
   ·simp only [dcls];exact trivial
   ·rcases hr.two with ⟨rfl,rfl⟩ | ⟨u,u',r2,r2',rfl,rfl,_⟩
    ·simp only [dcls];exact ⟨rfl,h⟩
    ·simp only [dcls]
     exact (dcl_al hE hB g _ h).bd fun d ts ts' h=>ih _ ts ts' h
end
theorem imp1_al (fl:Bool) {a b:List Tok} (h:Al a b):Rl (imp1 fl a) (imp1 fl b) :=
 (must_al _ fl h).bd fun _ ts ts' h=>(name_al false h).bd fun n ts ts' h=>(must_al [59] false h).bd fun _ ts ts' h=>⟨rfl,h⟩
theorem imps_al:∀(f:Nat) (acc:List Bs) (a b:List Tok),Al a b→Rl (imps f acc a) (imps f acc b):=by
 intro f
 induction f with
 | zero=>intro acc a b h;simp only [imps];exact trivial
 | succ f ih =>
   intro acc a b h
   rcases h.two with ⟨rfl,rfl⟩ | ⟨t,t',r,r',rfl,rfl,h1,h2,h3,h4,hr⟩
   ·simp only [imps];exact trivial
   ·simp only [imps,h2]
    split
    ·exact (imp1_al _ h).bd fun n ts ts' h=>ih _ ts ts' h
    ·exact ⟨rfl,h⟩
theorem mdl_al (g:Nat) {a b:List Tok} (h:Al a b):Rl (mdl g a) (mdl g b) :=
 (must_al _ false h).bd fun _ ts ts' h=>(name_al false h).bd fun n ts ts' h=>(must_al [59] false h).bd fun _ ts ts' h=>(imps_al g [] ts ts' h).bd fun is ts ts' h =>
   (dcls_al (fun d a b h=>expr_al g false d a b h) (fun d a b h=>blk_al g (fun d a b h=>expr_al g false d a b h) (fun d e a b h=>call_al (expr_al g) g d e h) g d a b h) g g [] ts ts' h).bd fun ds ts ts' h=>⟨rfl,h⟩
theorem parT_al {a b:List Tok} (h:Al a b) (n n':Nat) (m:Option Mo) (p:Nat) (c:Int) (hm:parT a n=some (m,p,c)):∃p',parT b n'=some (m,p',c):=by
 have hl:a.length=b.length:=by have:=congrArg List.length h;simpa using this
 have h1:Al (a++[endT n]) (b++[endT n']):=by
  simp only [Al,List.map_append,List.map_cons,List.map_nil,Tok.core,endT]
  rw [show a.map Tok.core=b.map Tok.core from h]
 have h2:=mdl_al (a.length+2) h1
 unfold parT at hm ⊢
 rw [←hl]
 generalize mdl (a.length+2) (a++[endT n])=x at h2 hm
 generalize mdl (a.length+2) (b++[endT n'])=y at h2
 match x,y,h2 with
 | none,none,_=>simp [whole] at hm
 | some (.er q c1),some (.er q' c2),h=>cases h;simp only [whole,Option.some.injEq,Prod.mk.injEq] at hm ⊢;exact ⟨q',hm.1,rfl,hm.2.2⟩
 | some (.ok e ts),some (.ok e' ts'),⟨h1,h2⟩ =>
   subst h1
   rcases h2.two with ⟨rfl,rfl⟩ | ⟨t,t',r,r',rfl,rfl,g1,g2,g3,g4,hr⟩
   ·simp [whole] at hm
   ·rcases hr.two with ⟨rfl,rfl⟩ | ⟨u,u',r2,r2',rfl,rfl,_⟩
    ·simp only [whole,Option.some.injEq,Prod.mk.injEq] at hm ⊢;exact ⟨0,hm.1,rfl,hm.2.2⟩
    ·simp only [whole,Option.some.injEq,Prod.mk.injEq] at hm ⊢;exact ⟨t'.p,hm.1,rfl,hm.2.2⟩
end Pz
end
section
namespace Pz
open Lx Te
section
variable {rn:Bs→Int} {cn:Int→Int} {tx:Int→Int→Bs} (L:Law rn cn tx) (hEl:∀x,rn x=0→x≠[101,108,115,101])
theorem errD_of {d:De} (h:errD rn cn d=0):dD d≤32∧fitsD d=true∧rn d.name=0∧d.params.length≤8∧errP rn d.params=0∧errL rn cn d.e=0∧errS rn cn d.body=0:=by
 unfold errD at h
 obtain ⟨h1,h⟩:=orE_0 h
 obtain ⟨h2,h⟩:=orE_0 h
 obtain ⟨h3,h⟩:=orE_0 h
 obtain ⟨h4,h⟩:=orE_0 h
 obtain ⟨h5,h⟩:=orE_0 h
 obtain ⟨h6,h7⟩:=orE_0 h
 refine ⟨?_,?_,h3,?_,h5,h6,h7⟩
 ·by_cases e:32<dD d
  ·rw [if_pos e] at h1;omega
  ·omega
 ·by_cases e:fitsD d=true
  ·exact e
  ·rw [if_neg e] at h2;omega
 ·by_cases e:8<d.params.length
  ·rw [if_pos e] at h4;omega
  ·omega
theorem dD_of {d:De} (h:dD d≤32):dL d.e 0 0≤32∧(d.kind=3→dS d.body 1 1≤32):=by
 unfold dD at h
 refine ⟨?_,?_⟩
 ·split at h<;>omega
 ·intro e
  rw [if_pos (Or.inl e)] at h
  omega
include L hEl
theorem dcl_ok (d:De) (he:errD rn cn d=0) (hN:NnD d) (g:Nat) (rest:List Tok) (hg:(kDe tx d++rest).length<g):dcl (E0 g) (B0 g) g false (kDe tx d++rest)=some (.ok d rest):=by
 obtain ⟨h1,h2,h3,h4,h5,h6,h7⟩:=errD_of he
 obtain ⟨d1,d2⟩:=dD_of h1
 have hK:d.kind=1∨d.kind=2∨d.kind=3:=by
  unfold fitsD at h2
  repeat' split at h2
  all_goals first | omega | cases h2
 rcases hK with e | e | e
 ·simp [fitsD,e] at h2
  obtain ⟨t1,t2,t3,t4⟩:=h2
  have hh:=holder_ok L d 1 e (by simpa using t3) (len0S t4) t1 t2 h6 hN.1 d1 g rest
  rw [kDe,if_pos e] at hg ⊢
  cases hx:d.ex with
  | true =>
    rw [hx] at hh hg
    simp only [kEx,if_true,List.cons_append,List.nil_append,List.length_cons] at hg ⊢
    rw [dcl,if_pos (by rfl),if_neg (by decide),dcl2,if_pos (by rfl),if_neg (by decide),hh (by omega)]
  | false =>
    rw [hx] at hh hg
    simp only [kEx,Bool.false_eq_true,if_false,List.cons_append,List.nil_append,List.length_cons] at hg ⊢
    rw [dcl,if_neg (by decide),dcl2,if_pos (by rfl),if_neg (by decide),hh (by omega)]
 ·simp [fitsD,e] at h2
  obtain ⟨⟨t0,t1⟩,t2,t3,t4⟩:=h2
  have hh:=holder_ok L d 2 e (by simpa using t3) (len0S t4) t1 t2 h6 hN.1 d1 g rest
  rw [kDe,if_neg (by omega),if_pos e] at hg ⊢
  rw [t0] at hh
  simp only [List.cons_append,List.length_cons] at hg ⊢
  rw [dcl,if_neg (by decide),dcl2,if_neg (by decide),if_pos ⟨rfl,by rfl⟩,if_neg (by decide),hh (by omega)]
 ·simp [fitsD,e] at h2
  obtain ⟨t1,t2⟩:=h2
  have hh:=fnc_ok L hEl d e (len0 t2) t1 (errP_of d.params h5) h4 h7 hN.2 (d2 e) g rest
  rw [kDe,if_neg (by omega),if_neg (by omega)] at hg ⊢
  cases hx:d.ex with
  | true =>
    rw [hx] at hh hg
    simp only [kEx,if_true,List.cons_append,List.nil_append,List.length_cons] at hg ⊢
    rw [dcl,if_pos (by rfl),if_neg (by decide),dcl2,if_neg (by decide),if_neg (by rintro ⟨h,_⟩;cases h),if_pos (by rfl),if_neg (by decide),hh (by omega)]
  | false =>
    rw [hx] at hh hg
    simp only [kEx,Bool.false_eq_true,if_false,List.cons_append,List.nil_append,List.length_cons] at hg ⊢
    rw [dcl,if_neg (by decide),dcl2,if_neg (by decide),if_neg (by rintro ⟨_,h⟩;revert h;decide),if_pos (by rfl),if_neg (by decide),hh (by omega)]
omit L hEl in
theorem kDe_head (d:De):∃a b r,kDe tx d=a::b::r∧a.x≠[105,109,112,111,114,116]:=by
 unfold kDe
 by_cases e:d.kind=1
 ·rw [if_pos e]
  cases d.ex
  ·exact ⟨_,_,_,rfl,by decide⟩
  ·exact ⟨_,_,_,rfl,by decide⟩
 ·rw [if_neg e]
  by_cases e2:d.kind=2
  ·rw [if_pos e2]
   exact ⟨_,_,_,rfl,by decide⟩
  ·rw [if_neg e2]
   cases d.ex
   ·exact ⟨_,_,_,rfl,by decide⟩
   ·exact ⟨_,_,_,rfl,by decide⟩
theorem dcls_ok:∀(ds:List De) (g f:Nat) (acc:List De) (t:Tok),errDs rn cn ds=0→(∀d∈ds,NnD d)→acc.length+ds.length≤64→ds.length<f→(ds.flatMap (kDe tx)++[t]).length<g→dcls (E0 g) (B0 g) g f acc (ds.flatMap (kDe tx)++[t])=some (.ok (acc++ds) [t])
 | [],g,f,acc,t,_,_,_,hf,_=>by
   obtain ⟨f,rfl⟩:∃x,f=x+1:=⟨f - 1,by simp at hf;omega⟩
   rw [List.flatMap_nil,List.nil_append,dcls,List.append_nil]
 | d::ds,g,f,acc,t,he,hN,hl,hf,hg=>by
   obtain ⟨f,rfl⟩:∃x,f=x+1:=⟨f - 1,by simp at hf;omega⟩
   rw [errDs] at he
   obtain ⟨h1,h2⟩:=orE_0 he
   simp only [List.length_cons] at hl hf
   have hfl:(acc.length == 64)=false:=by simp;omega
   rw [List.flatMap_cons,List.append_assoc] at hg ⊢
   have hd:=dcl_ok L hEl d h1 (hN d (by simp)) g (ds.flatMap (kDe tx)++[t]) hg
   have hr:=dcls_ok ds g f (acc++[d]) t h2 (fun x hx=>hN x (by simp [hx])) (by simp only [List.length_append,List.length_cons,List.length_nil];omega) (by omega) (by simp only [List.length_append,List.length_cons] at hg ⊢;omega)
   obtain ⟨a,b,r,e,_⟩:=kDe_head (tx:=tx) d
   rw [e,List.cons_append,List.cons_append] at hd ⊢
   rw [dcls,hfl,hd,bd_ok,hr]
   simp
omit L hEl in
theorem imps_ok:∀(is:List Bs) (f:Nat) (acc:List Bs) (t:Tok) (rest:List Tok),t.x≠[105,109,112,111,114,116]→acc.length+is.length≤16→is.length<f→imps f acc (is.flatMap kIm++t::rest)=some (.ok (acc++is) (t::rest))
 | [],f,acc,t,rest,ht,_,hf=>by
   obtain ⟨f,rfl⟩:∃x,f=x+1:=⟨f - 1,by simp at hf;omega⟩
   rw [List.flatMap_nil,List.nil_append,imps,if_neg ht,List.append_nil]
 | x::is,f,acc,t,rest,ht,hl,hf=>by
   obtain ⟨f,rfl⟩:∃x,f=x+1:=⟨f - 1,by simp at hf;omega⟩
   simp only [List.length_cons] at hl hf
   have hfl:(acc.length == 16)=false:=by simp;omega
   have hr:=imps_ok is f (acc++[x]) t rest ht (by simp only [List.length_append,List.length_cons,List.length_nil];omega) (by omega)
   rw [List.flatMap_cons,List.append_assoc,kIm,List.cons_append,List.cons_append,List.cons_append,List.nil_append,imps,if_pos (by rfl),hfl,imp1,must_y (by rfl),bd_ok,name_y,bd_ok,must_y (by rfl),bd_ok,bd_ok,hr]
   simp
theorem mdl_back (m:Mo) (he:errM rn cn m=0) (hN:∀d∈m.decls,NnD d) (n g:Nat) (hg:(kMo tx m).length+1<g):mdl g (kMo tx m++[endT n])=some (.ok m [endT n]):=by
 unfold errM at he
 obtain ⟨h1,he⟩:=orE_0 he
 obtain ⟨h2,he⟩:=orE_0 he
 obtain ⟨h3,he⟩:=orE_0 he
 obtain ⟨h4,h5⟩:=orE_0 he
 have h2:m.imports.length≤16:=by
  by_cases e:16<m.imports.length
  ·rw [if_pos e] at h2;omega
  ·omega
 have h4:m.decls.length≤64:=by
  by_cases e:64<m.decls.length
  ·rw [if_pos e] at h4;omega
  ·omega
 have hT:kMo tx m++[endT n]=tW [109,111,100,117,108,101]::tN m.name::tM [59]::(m.imports.flatMap kIm++(m.decls.flatMap (kDe tx)++[endT n])):=by simp [kMo]
 have hlen:(kMo tx m).length=3+(m.imports.flatMap kIm).length+(m.decls.flatMap (kDe tx)).length:=by simp [kMo];omega
 have hi:m.imports.length≤(m.imports.flatMap kIm).length:=by
  clear h3 h2 hT hlen
  induction m.imports with
  | nil=>simp
  | cons x l ih=>simp only [List.flatMap_cons,List.length_append,List.length_cons,kIm,List.length_nil];omega
 have hdl:m.decls.length≤(m.decls.flatMap (kDe tx)).length:=by
  clear h5 h4 hT hlen hN
  induction m.decls with
  | nil=>simp
  | cons d l ih =>
    obtain ⟨a,b,r,e,_⟩:=kDe_head (tx:=tx) d
    simp only [List.flatMap_cons,List.length_append,List.length_cons,e]
    omega
 have hds:=dcls_ok L hEl m.decls g g [] (endT n) h5 hN (by simpa using h4) (by omega) (by simp only [List.length_append,List.length_cons,List.length_nil];omega)
 obtain ⟨t,r,e1,e2⟩:∃t r,m.decls.flatMap (kDe tx)++[endT n]=t::r∧t.x≠[105,109,112,111,114,116]:=by
  cases m.decls with
  | nil=>exact ⟨endT n,[],rfl,by simp [endT]⟩
  | cons d l =>
    obtain ⟨a,b,r,e,e'⟩:=kDe_head (tx:=tx) d
    exact ⟨a,b::(r++(l.flatMap (kDe tx)++[endT n])),by simp [e],e'⟩
 rw [hT,mdl,must_y (by rfl),bd_ok,name_y,bd_ok,must_y (by rfl),bd_ok,e1,imps_ok m.imports g [] t r e2 (by simpa using h2) (by omega),bd_ok,←e1,hds,bd_ok]
 simp
theorem parT_back (m:Mo) (he:errM rn cn m=0) (hN:∀d∈m.decls,NnD d) (ts:List Tok) (hts:ts.map Tok.core=(kMo tx m).map Tok.core) (n:Nat):parT ts n=some (some m,0,0):=by
 have hlen:ts.length=(kMo tx m).length:=by have:=congrArg List.length hts;simpa using this
 have h0:parT (kMo tx m) n=some (some m,0,0):=by
  unfold parT
  rw [mdl_back L hEl m he hN n _ (by omega)]
  rfl
 obtain ⟨p',h1⟩:=parT_al (show Al (kMo tx m) ts from hts.symm) n n (some m) 0 0 h0
 have hp:p'=0:=by
  unfold parT at h1
  generalize mdl (ts.length+2) (ts++[endT n])=x at h1
  match x,h1 with
  | some (.ok a [t]),h1=>simp only [whole,Option.some.injEq,Prod.mk.injEq] at h1;omega
 rw [h1,hp]
end
end Pz
end
section
namespace Pz
open Lx Te
def Sz {α:Type} (f:α→Nat) (n:Nat):Ou α→Prop
 | some (.ok a ts)=>f a+ts.length≤n
 | _=>True
theorem Sz.ok {α:Type} {f:α→Nat} {n:Nat} {a:α} {ts:List Tok} (h:f a+ts.length≤n):Sz f n (some (.ok a ts)):=h
theorem Sz.bd {α β:Type} {f:α→Nat} {f':β→Nat} {n n':Nat} {m:Ou α} {k:α→List Tok→Ou β} (h:Sz f n m) (hk:∀a ts,f a+ts.length≤n→Sz f' n' (k a ts)):Sz f' n' (bd m k):=by
 rcases m with _ | ⟨a,ts⟩ | ⟨p,c⟩
 ·trivial
 ·exact hk a ts h
 ·trivial
theorem Sz.mono {α:Type} {f f':α→Nat} {n n':Nat} {m:Ou α} (h:Sz f n m) (hk:∀a k,f a+k≤n→f' a+k≤n'):Sz f' n' m:=by
 rcases m with _ | ⟨a,ts⟩ | ⟨p,c⟩
 ·trivial
 ·exact hk a _ h
 ·trivial
theorem Sz.ite {α:Type} {f:α→Nat} {n:Nat} {c:Prop} [Decidable c] {a b:Ou α} (h1:c→Sz f n a) (h2:¬c→Sz f n b):Sz f n (if c then a else b):=by
 split
 ·exact h1 ‹_›
 ·exact h2 ‹_›
theorem Exs.app_sz:∀(x y:Exs),(x.app y).size=x.size+y.size
 | .nil,y=>by simp [Exs.app,Exs.size]
 | .cons h k r,y=>by simp only [Exs.app,Exs.size,Exs.app_sz r y];omega
theorem Sts.app_sz:∀(x y:Sts),(x.app y).size=x.size+y.size
 | .nil,y=>by simp [Sts.app,Sts.size]
 | .cons h e b l r,y=>by simp only [Sts.app,Sts.size,Sts.app_sz r y];omega
def o1 {α:Type} (_:α):Nat:=1
def o0 {α:Type} (_:α):Nat:=0
theorem must_sz (s:Bs) (fl:Bool) (ts:List Tok):Sz o1 ts.length (must s fl ts):=by
 cases ts with
 | nil=>trivial
 | cons t r =>
   unfold must
   exact Sz.ite (fun _=>Sz.ite (fun _=>trivial) (fun hf=>Sz.ok (by simp [o1];omega))) (fun _=>trivial)
theorem has_sz (s:Bs) (fl:Bool) (ts:List Tok):Sz o0 ts.length (has s fl ts):=by
 cases ts with
 | nil=>trivial
 | cons t r =>
   unfold has
   exact Sz.ite (fun _=>Sz.ite (fun _=>trivial) (fun hf=>Sz.ok (by simp [o0]))) (fun _=>Sz.ok (by simp [o0]))
theorem name_sz (fl:Bool) (ts:List Tok):Sz o1 ts.length (name fl ts):=by
 cases ts with
 | nil=>trivial
 | cons t r =>
   unfold name
   exact Sz.ite (fun _=>Sz.ite (fun _=>trivial) (fun hf=>Sz.ok (by simp [o1];omega))) (fun _=>trivial)
theorem opn_sz (s:Bs) (fl:Bool) (d:Nat) (ts:List Tok):Sz o1 ts.length (opn s fl d ts):=by
 cases ts with
 | nil=>trivial
 | cons t r =>
   unfold opn
   exact Sz.ite (fun _=>Sz.ite (fun _=>trivial) (fun _=>Sz.ite (fun _=>trivial) (fun hf=>Sz.ok (by simp [o1];omega)))) (fun _=>trivial)
def fE (e:Ex):Nat:=e.2.size+1
theorem refr_sz (fl:Bool) (ts:List Tok):Sz fE ts.length (refr fl ts):=by
 unfold refr
 refine (name_sz fl ts).bd fun n ts1 h1=>(has_sz _ _ _).bd fun b ts2 h2=>Sz.ite (fun _=>(name_sz _ _).bd fun m ts3 h3=>Sz.ok ?_) (fun _=>Sz.ok ?_)
 all_goals (simp only [o1,o0,fE,Exs.size] at *;omega)
section
variable {E:Bool→Nat→List Tok→Ou Ex}
def SE (E:Bool→Nat→List Tok→Ou Ex):Prop:=∀fl d ts,Sz fE ts.length (E fl d ts)
theorem ins_sz (hE:SE E) (fl:Bool) (d:Nat) (ts:List Tok):Sz (fun e=>fE e+2) ts.length (ins E fl d ts):=by
 unfold ins
 refine (opn_sz _ _ _ _).bd fun _ ts1 h1=>(hE _ _ _).bd fun e ts2 h2=>(must_sz _ _ _).bd fun _ ts3 h3=>Sz.ok ?_
 simp only [o1] at *;omega
theorem rwE_sz (hE:SE E) (d:Nat):∀(g:Nat) (acc:Exs) (ts:List Tok),Sz Exs.size (acc.size+ts.length) (rwE E d g acc ts):=by
 intro g
 induction g with
 | zero=>intro acc ts;trivial
 | succ g ih =>
   intro acc ts
   cases ts with
   | nil=>trivial
   | cons t r =>
     unfold rwE
     refine Sz.ite (fun _=>?_) (fun _=>Sz.ok (Nat.le_refl _))
     refine (hE _ d r).bd fun e ts h=>(ih _ ts).mono fun a k hk=>?_
     rw [Exs.app_sz] at hk
     simp only [Exs.size,fE,List.length_cons] at *
     omega
theorem args_sz (hE:SE E) (g d:Nat) (ts:List Tok):Sz (fun l=>l.size+2) ts.length (args E g d ts):=by
 unfold args
 split
 ·refine Sz.ite (fun _=>Sz.ok (by simp [Exs.size];omega)) (fun _=>?_)
  refine (opn_sz _ _ _ _).bd fun _ ts1 h1=>(hE _ _ _).bd fun e ts2 h2=>(rwE_sz hE _ g _ _).bd fun l ts3 h3=>(must_sz _ _ _).bd fun _ ts4 h4=>Sz.ok ?_
  simp only [o1,Exs.size,fE] at *;omega
 ·exact Sz.ite (fun _=>trivial) (fun _=>trivial)
 ·trivial
theorem call_sz (hE:SE E) (g d:Nat) (e:Ex) (ts:List Tok):Sz fE ts.length (call E g d e ts):=by
 unfold call
 refine (args_sz hE g d ts).bd fun l ts1 h1=>Sz.ok ?_
 simp only [fE] at *;omega
theorem pr_sz (hE:SE E) (g:Nat) (fl:Bool) (d:Nat) (ts:List Tok):Sz fE ts.length (pr E g fl d ts):=by
 unfold pr
 split
 ·trivial
 rename_i t r
 have lf:∀{x:Ex},x.2 = .nil→Sz fE (t::r).length (if fl then some (.er t.p 3) else some (.ok x r)) :=
  fun hx=>Sz.ite (fun _=>trivial) (fun hf=>Sz.ok (by simp only [fE,hx,Exs.size,List.length_cons];omega))
 refine Sz.ite (fun hk=>lf rfl) (fun _=>?_)
 refine Sz.ite (fun hk=>?_) (fun _=>?_)
 ·refine (refr_sz fl _).bd fun e ts h=>?_
  cases ts with
  | nil=>trivial
  | cons u r'=>exact Sz.ite (fun _=>(call_sz hE g d e _).mono fun a k hk=>by omega) (fun _=>Sz.ok h)
 refine Sz.ite (fun _=>lf rfl) (fun _=>?_)
 refine Sz.ite (fun _=>lf rfl) (fun _=>?_)
 refine Sz.ite (fun _=>lf rfl) (fun _=>?_)
 refine Sz.ite (fun _=>lf rfl) (fun _=>?_)
 refine Sz.ite (fun _=>lf rfl) (fun _=>?_)
 have cv:∀op:Int,Sz fE (t::r).length (if fl then some (.er t.p 3) else bd (ins E false d r) fun e ts=>some (.ok (one op e) ts)) :=
  fun op=>Sz.ite (fun _=>trivial) (fun hf=>(ins_sz hE false d r).bd fun e ts h=>Sz.ok (by simp only [fE,one,Exs.size,List.length_cons] at *;omega))
 refine Sz.ite (fun _=>cv 3) (fun _=>?_)
 refine Sz.ite (fun _=>cv 4) (fun _=>?_)
 exact (ins_sz hE fl d _).mono fun a k hk=>by omega
theorem un_sz (hE:SE E) (g:Nat):∀(f:Nat) (fl:Bool) (d:Nat) (ts:List Tok),Sz fE ts.length (un E g f fl d ts):=by
 intro f
 induction f with
 | zero=>intro fl d ts;trivial
 | succ f ih =>
   intro fl d ts
   cases ts with
   | nil=>trivial
   | cons t r =>
     unfold un
     have cv:∀(s:Bs) (op:Int),Sz fE (t::r).length (bd (opn s fl d (t::r)) fun _ ts=>bd (un E g f false (d+1) ts) fun e ts=>some (.ok (one op e) ts)) :=
      fun s op=>(opn_sz _ _ _ _).bd fun _ ts1 h1=>(ih false (d+1) ts1).bd fun e ts h=>Sz.ok (by simp only [o1,fE,one,Exs.size,List.length_cons] at *;omega)
     exact Sz.ite (fun _=>cv _ _) (fun _=>Sz.ite (fun _=>cv _ _) (fun _=>pr_sz hE g fl d _))
end
theorem lp_sz {N:List Tok→Ou Ex} (lv:Nat) (hN:∀ts,Sz fE ts.length (N ts)):∀(f:Nat) (e:Ex) (ts:List Tok),Sz fE (fE e+ts.length) (lp N lv f e ts):=by
 intro f
 induction f with
 | zero=>intro e ts;trivial
 | succ f ih =>
   intro e ts
   cases ts with
   | nil=>trivial
   | cons t r =>
     unfold lp
     refine Sz.ite (fun _=>Sz.ok (Nat.le_refl _)) (fun hop=>(hN r).bd fun e2 ts h=>?_)
     have hb:fE (bin (opOf t.x).1 e e2)+ts.length≤fE e+(t::r).length:=by simp only [fE,bin,Exs.size,List.length_cons] at *;omega
     exact Sz.ite (fun _=>Sz.ok hb) (fun _=>(ih _ ts).mono fun a k hk=>by omega)
theorem two_sz {E:Bool→Nat→List Tok→Ou Ex} (hE:SE E) (g:Nat):∀(n:Nat) (fl:Bool) (d:Nat) (ts:List Tok),Sz fE ts.length (two E g n fl d ts):=by
 intro n
 induction n with
 | zero=>intro fl d ts;exact un_sz hE g g fl d ts
 | succ n ih =>
   intro fl d ts
   unfold two
   exact (ih fl d ts).bd fun e ts h=>(lp_sz _ (fun ts=>ih false d ts) g e ts).mono fun a k hk=>by omega
theorem expr_sz:∀(f:Nat),SE (expr f)
 | 0=>fun _ _ _=>trivial
 | f+1=>fun fl d ts=>two_sz (expr_sz f) (f+1) 5 fl d ts
def fS (s:St):Nat:=s.2.1.size+s.2.2.1.size+s.2.2.2.size+1
section
variable {E:Nat→List Tok→Ou Ex} {C:Nat→Ex→List Tok→Ou Ex} {B:Nat→List Tok→Ou Sts} (hE:∀d ts,Sz fE ts.length (E d ts)) (hC:∀d e ts,Sz fE ts.length (C d e ts)) (hB:∀d ts,Sz Sts.size ts.length (B d ts))
include hE in
theorem lone_sz (d:Nat) (ts:List Tok):Sz Exs.size ts.length (lone E d ts) :=
 (hE d ts).bd fun e ts h=>Sz.ok (by simp only [fE,Exs.size] at *;omega)
theorem ended_sz (kind:Int) (n:Bs) (e:Exs) (ts:List Tok):Sz fS (e.size+ts.length) (ended kind n e ts) :=
 (must_sz _ _ _).bd fun _ ts h=>Sz.ok (by simp only [o1,fS,Sts.size] at *;omega)
include hE in
theorem asg_sz (d:Nat) (kind:Int) (n:Bs) (ts:List Tok):Sz fS ts.length (asg E d kind n ts) :=
 (must_sz _ _ _).bd fun _ ts1 h1=>(lone_sz hE d ts1).bd fun e ts2 h2=>(ended_sz kind n e ts2).mono fun a k hk=>by simp only [o1] at *;omega
include hE hC in
theorem named_sz (d:Nat) (ts:List Tok):Sz fS ts.length (named E C d ts):=by
 unfold named
 refine (refr_sz false ts).bd fun e ts1 h1=>?_
 cases ts1 with
 | nil=>trivial
 | cons u r =>
   refine Sz.ite (fun _=>(asg_sz hE d 2 _ _).mono fun a k hk=>by omega) (fun _=>?_)
   exact (hC d e _).bd fun c ts2 h2=>(ended_sz 9 [] _ ts2).mono fun a k hk=>by simp only [fE,Exs.size] at *;omega
include hE hB in
theorem branch_sz (d:Nat) (ts:List Tok):Sz (fun s=>s.2.1.size+s.2.2.1.size+s.2.2.2.size) ts.length (branch E B d ts):=by
 unfold branch
 refine (lone_sz hE d ts).bd fun e ts1 h1=>(hB d ts1).bd fun b ts2 h2=>(has_sz _ _ _).bd fun y ts3 h3=>Sz.ite (fun _=>(hB d ts3).bd fun l ts4 h4=>Sz.ok ?_) (fun _=>Sz.ok ?_)
 all_goals (simp only [o0,Sts.size] at *;omega)
include hE hB in
theorem while_sz (d:Nat) (ts:List Tok):Sz (fun s=>s.2.1.size+s.2.2.1.size+s.2.2.2.size) ts.length (while_ E B d ts):=by
 unfold while_
 refine (lone_sz hE d ts).bd fun e ts1 h1=>(hB d ts1).bd fun b ts2 h2=>Sz.ok ?_
 simp only [Sts.size] at *;omega
include hE in
theorem returned_sz (d:Nat) (ts:List Tok):Sz fS ts.length (returned E d ts):=by
 unfold returned
 split
 ·trivial
 exact Sz.ite (fun _=>(ended_sz 5 [] _ _).mono fun a k hk=>by simp only [Exs.size] at *;omega) (fun _=>(lone_sz hE d _).bd fun e ts h=>(ended_sz 5 [] e ts).mono fun a k hk=>by omega)
include hB in
theorem tried_sz (d:Nat) (ts:List Tok):Sz (fun s=>s.2.1.size+s.2.2.1.size+s.2.2.2.size) ts.length (tried B d ts):=by
 unfold tried
 refine (hB d ts).bd fun b ts1 h1=>(must_sz _ _ _).bd fun _ ts2 h2=>(name_sz _ _).bd fun n ts3 h3=>(hB d ts3).bd fun l ts4 h4=>Sz.ok ?_
 simp only [o1,Exs.size] at *;omega
include hE hC hB in
theorem stm_sz (d:Nat) (ts:List Tok):Sz fS ts.length (stm E C B d ts):=by
 unfold stm
 split
 ·trivial
 rename_i t r
 have up:∀{m:Ou St},Sz (fun s=>s.2.1.size+s.2.2.1.size+s.2.2.2.size) r.length m→Sz fS (t::r).length m:=fun h=>h.mono fun a k hk=>by simp only [fS,List.length_cons];omega
 have up2:∀{m:Ou St},Sz fS r.length m→Sz fS (t::r).length m:=fun h=>h.mono fun a k hk=>by simp only [List.length_cons];omega
 refine Sz.ite (fun _=>named_sz hE hC d _) (fun _=>?_)
 refine Sz.ite (fun _=>up2 ((name_sz false _).bd fun n ts1 h1=>(asg_sz hE d 1 n ts1).mono fun a k hk=>by omega)) (fun _=>?_)
 refine Sz.ite (fun _=>up (branch_sz hE hB d _)) (fun _=>?_)
 refine Sz.ite (fun _=>up (while_sz hE hB d _)) (fun _=>?_)
 refine Sz.ite (fun _=>up2 (returned_sz hE d _)) (fun _=>?_)
 refine Sz.ite (fun _=>up2 ((lone_sz hE d _).bd fun e ts h=>(ended_sz 6 [] e ts).mono fun a k hk=>by omega)) (fun _=>?_)
 refine Sz.ite (fun _=>up2 ((lone_sz hE d _).bd fun e ts h=>(ended_sz 7 [] e ts).mono fun a k hk=>by omega)) (fun _=>?_)
 exact Sz.ite (fun _=>up (tried_sz hB d _)) (fun _=>trivial)
end
theorem sts_sz {S:List Tok→Ou St} (hS:∀ts,Sz fS ts.length (S ts)):∀(g:Nat) (acc:Sts) (ts:List Tok),Sz Sts.size (acc.size+ts.length) (sts S g acc ts):=by
 intro g
 induction g with
 | zero=>intro acc ts;trivial
 | succ g ih =>
   intro acc ts
   cases ts with
   | nil=>trivial
   | cons t r =>
     unfold sts
     refine Sz.ite (fun _=>Sz.ok (Nat.le_refl _)) (fun _=>(hS _).bd fun s ts h=>(ih _ ts).mono fun a k hk=>?_)
     rw [Sts.app_sz] at hk
     simp only [Sts.size,fS] at *
     omega
theorem blk_sz {E:Nat→List Tok→Ou Ex} {C:Nat→Ex→List Tok→Ou Ex} (hE:∀d ts,Sz fE ts.length (E d ts)) (hC:∀d e ts,Sz fE ts.length (C d e ts)) (g:Nat):∀f d ts,Sz Sts.size ts.length (blk E C g f d ts):=by
 intro f
 induction f with
 | zero=>intro d ts;trivial
 | succ f ih =>
   intro d ts
   unfold blk
   refine (opn_sz _ _ _ _).bd fun _ ts1 h1=>(sts_sz (fun ts=>stm_sz hE hC ih (d+1) ts) g .nil ts1).bd fun l ts2 h2=>(must_sz _ _ _).bd fun _ ts3 h3=>Sz.ok ?_
   simp only [o1,Sts.size] at *;omega
theorem typ_sz (ts:List Tok):Sz o1 ts.length (typ ts):=by
 unfold typ
 split
 ·trivial
 exact Sz.ite (fun _=>Sz.ok (by simp [o1];omega)) (fun _=>Sz.ite (fun _=>Sz.ok (by simp [o1];omega)) (fun _=>Sz.ite (fun _=>Sz.ok (by simp [o1];omega)) (fun _=>trivial)))
theorem par1_sz (fl:Bool) (ts:List Tok):Sz o1 ts.length (par1 fl ts):=by
 unfold par1
 refine (name_sz fl ts).bd fun n ts1 h1=>(must_sz _ _ _).bd fun _ ts2 h2=>(typ_sz _).bd fun t ts3 h3=>Sz.ok ?_
 simp only [o1] at *;omega
theorem rwP_sz:∀(g:Nat) (acc:List Pa) (ts:List Tok),Sz List.length (acc.length+ts.length) (rwP g acc ts):=by
 intro g
 induction g with
 | zero=>intro acc ts;trivial
 | succ g ih =>
   intro acc ts
   cases ts with
   | nil=>trivial
   | cons t r =>
     unfold rwP
     refine Sz.ite (fun _=>(par1_sz _ r).bd fun p ts h=>(ih _ ts).mono fun a k hk=>?_) (fun _=>Sz.ok (Nat.le_refl _))
     simp only [o1,List.length_append,List.length_cons,List.length_nil] at *;omega
section
variable {E:Nat→List Tok→Ou Ex} {B:Nat→List Tok→Ou Sts} (hE:∀d ts,Sz fE ts.length (E d ts)) (hB:∀d ts,Sz Sts.size ts.length (B d ts)) (g:Nat)
include hE in
theorem holder_sz (kind:Int) (ex:Bool) (ts:List Tok):Sz ndD ts.length (holder E kind ex ts):=by
 unfold holder
 refine (name_sz false ts).bd fun n ts1 h1=>(must_sz _ _ _).bd fun _ ts2 h2=>(typ_sz _).bd fun t ts3 h3=>(must_sz _ _ _).bd fun _ ts4 h4=>(lone_sz hE 0 _).bd fun e ts5 h5=>(must_sz _ _ _).bd fun _ ts6 h6=>Sz.ok ?_
 simp only [o1,ndD,Sts.size,List.length_nil] at *;omega
theorem params_sz (ts:List Tok):Sz List.length ts.length (params g ts):=by
 unfold params
 split
 ·trivial
 refine Sz.ite (fun _=>Sz.ok (by simp)) (fun _=>(par1_sz false _).bd fun p ts h=>(rwP_sz g [p] ts).mono fun a k hk=>?_)
 simp only [o1,List.length_cons,List.length_nil] at *;omega
theorem result_sz (ts:List Tok):Sz o0 ts.length (result ts):=by
 unfold result
 exact (has_sz _ _ _).bd fun y ts1 h1=>Sz.ite (fun _=>(typ_sz _).mono fun a k hk=>by simp only [o1,o0] at *;omega) (fun _=>Sz.ok (by simp only [o0] at *;omega))
include hB in
theorem fnc_sz (ex:Bool) (ts:List Tok):Sz ndD ts.length (fnc B g ex ts):=by
 unfold fnc
 refine (name_sz false ts).bd fun n ts1 h1=>(must_sz _ _ _).bd fun _ ts2 h2=>(params_sz g _).bd fun ps ts3 h3=>(must_sz _ _ _).bd fun _ ts4 h4=>(result_sz _).bd fun t ts5 h5=>(hB 0 _).bd fun b ts6 h6=>Sz.ok ?_
 simp only [o1,o0,ndD,Exs.size] at *;omega
include hE hB in
theorem dcl2_sz (ex fl:Bool) (ts:List Tok):Sz ndD ts.length (dcl2 E B g ex fl ts):=by
 unfold dcl2
 split
 ·trivial
 rename_i t r
 have up:∀{m:Ou De},Sz ndD r.length m→Sz ndD (t::r).length (if fl then some (.er t.p 3) else m):=fun h=>Sz.ite (fun _=>trivial) (fun _=>h.mono fun a k hk=>by simp only [List.length_cons];omega)
 exact Sz.ite (fun _=>up (holder_sz hE 1 ex _)) (fun _=>Sz.ite (fun hc=>up (holder_sz hE 2 ex _)) (fun _=>Sz.ite (fun _=>up (fnc_sz hB g ex _)) (fun _=>trivial)))
include hE hB in
theorem dcl_sz (fl:Bool) (ts:List Tok):Sz ndD ts.length (dcl E B g fl ts):=by
 unfold dcl
 split
 ·trivial
 exact Sz.ite (fun _=>Sz.ite (fun _=>trivial) (fun hf=>(dcl2_sz hE hB g true false _).mono fun d k hd=>by simp only [List.length_cons];omega)) (fun _=>dcl2_sz hE hB g false fl _)
def fDs (l:List De):Nat:=(l.map ndD).sum
include hE hB in
theorem dcls_sz:∀(f:Nat) (acc:List De) (ts:List Tok),Sz fDs (fDs acc+ts.length) (dcls E B g f acc ts):=by
 intro f
 induction f with
 | zero=>intro acc ts;trivial
 | succ f ih =>
   intro acc ts
   match ts with
   | []=>trivial
   | [t]=>exact Sz.ok (Nat.le_refl _)
   | t::u::r =>
     unfold dcls
     refine (dcl_sz hE hB g _ _).bd fun d ts h=>(ih _ ts).mono fun a k hk=>?_
     simp only [fDs,List.map_append,List.sum_append,List.map_cons,List.map_nil,List.sum_cons,List.sum_nil] at *
     omega
end
theorem imp1_sz (fl:Bool) (ts:List Tok):Sz o1 ts.length (imp1 fl ts):=by
 unfold imp1
 refine (must_sz _ _ _).bd fun _ ts1 h1=>(name_sz false _).bd fun n ts2 h2=>(must_sz _ _ _).bd fun _ ts3 h3=>Sz.ok ?_
 simp only [o1] at *;omega
theorem imps_sz:∀(f:Nat) (acc:List Bs) (ts:List Tok),Sz List.length (acc.length+ts.length) (imps f acc ts):=by
 intro f
 induction f with
 | zero=>intro acc ts;trivial
 | succ f ih =>
   intro acc ts
   cases ts with
   | nil=>trivial
   | cons t r =>
     unfold imps
     refine Sz.ite (fun _=>(imp1_sz _ _).bd fun p ts h=>(ih _ ts).mono fun a k hk=>?_) (fun _=>Sz.ok (Nat.le_refl _))
     simp only [o1,List.length_append,List.length_cons,List.length_nil] at *;omega
theorem parT_sz (ts:List Tok) (n:Nat) (m:Mo) (p:Nat) (c:Int) (h:parT ts n=some (some m,p,c)):m.imports.length+fDs m.decls≤ts.length:=by
 have hE:=expr_sz (ts.length+2)
 have hE0:∀d ts',Sz fE ts'.length (E0 (ts.length+2) d ts'):=fun d ts'=>hE false d ts'
 have hC0:∀d e ts',Sz fE ts'.length (C0 (ts.length+2) d e ts'):=fun d e ts'=>call_sz hE _ d e ts'
 have hB0:∀d ts',Sz Sts.size ts'.length (B0 (ts.length+2) d ts'):=fun d ts'=>blk_sz hE0 hC0 _ _ d ts'
 have hm:Sz (fun m:Mo=>m.imports.length+fDs m.decls+1) (ts++[endT n]).length (mdl (ts.length+2) (ts++[endT n])):=by
  unfold mdl
  refine (must_sz _ _ _).bd fun _ ts1 h1=>(name_sz false _).bd fun x ts2 h2=>(must_sz _ _ _).bd fun _ ts3 h3=>(imps_sz _ [] _).bd fun is ts4 h4=>(dcls_sz hE0 hB0 _ _ [] _).bd fun ds ts5 h5=>Sz.ok ?_
  simp only [o1,List.length_nil,fDs,List.map_nil,List.sum_nil] at *
  omega
 unfold parT whole at h
 split at h
 ·cases h
 ·cases h
 ·rename_i a t heq
  rw [heq] at hm
  simp only [Option.some.injEq,Prod.mk.injEq] at h
  rw [←h.1]
  have:a.imports.length+fDs a.decls+1+1≤(ts++[endT n]).length:=hm
  simp only [List.length_append,List.length_cons,List.length_nil] at this
  omega
 ·cases h
 ·cases h
end Pz
end
section
namespace Pz
open Lx Te
open Go.RowKit (wrap64)
section
variable {rn:Bs→Int} {cn:Int→Int} {tx:Int→Int→Bs} (hn:∀x,rn x=0→x.length≤32) (ht:∀vt vb,litOk cn vt vb=true→0≤vb→(tx vt vb).length≤3001)
theorem ifx {c:Prop} [Decidable c] {a:Int} (h:(if c then (0:Int) else a)=0) (ha:a≠0):c:=by
 split at h
 ·assumption
 ·exact absurd h ha
include hn ht in
theorem pre_ln (h:EH) (n:Nat) (h0:0≤h.vb) (he:errH rn cn h n=0):(pre tx h).length≤3100:=by
 unfold errH at he
 obtain ⟨e1,e2⟩:=orE_0 he
 obtain ⟨e2,_⟩:=orE_0 e2
 have hf:=ifx (c:=fitsE cn h n=true) e1 (by decide)
 unfold nameE at e2
 unfold pre
 by_cases k1:h.kind=1
 ·rw [if_pos k1]
  unfold fitsE at hf
  rw [if_pos k1,Bool.and_eq_true] at hf
  have:=ht h.vt h.vb hf.1 h0
  omega
 rw [if_neg k1]
 by_cases k2:h.kind=2
 ·rw [if_pos k2]
  rw [if_pos (Or.inl k2)] at e2
  have:=hn _ e2
  omega
 rw [if_neg k2]
 by_cases k3:h.kind=3
 ·rw [if_pos k3]
  rw [if_neg (by omega),if_pos (Or.inl k3)] at e2
  obtain ⟨a,b⟩:=orE_0 e2
  have:=hn _ a
  have:=hn _ b
  simp only [List.length_append,List.length_cons]
  omega
 rw [if_neg k3]
 by_cases k4:h.kind=4
 ·rw [if_pos k4]
  rw [if_pos (Or.inr k4)] at e2
  have:=hn _ e2
  simp only [List.length_append,List.length_cons,List.length_nil]
  omega
 rw [if_neg k4]
 by_cases k5:h.kind=5
 ·rw [if_pos k5]
  rw [if_neg (by omega),if_pos (Or.inr k5)] at e2
  obtain ⟨a,b⟩:=orE_0 e2
  have:=hn _ a
  have:=hn _ b
  simp only [List.length_append,List.length_cons,List.length_nil]
  omega
 rw [if_neg k5]
 repeat' split
 all_goals simp
theorem post_ln (h:EH):(post h).length≤1:=by
 unfold post
 repeat' split
 all_goals simp
theorem mark_ln (op:Int):(Te.mark op).length≤4:=by
 by_cases h:1≤op∧op≤12
 ·obtain rfl | rfl | rfl | rfl | rfl | rfl | rfl | rfl | rfl | rfl | rfl | rfl:op=1∨op=2∨op=3∨op=4∨op=5∨op=6∨op=7∨op=8∨op=9∨op=10∨op=11∨op=12:=by omega
  all_goals decide
 ·have e:Te.mark op=[32,124,124,32]:=by
   unfold Te.mark
   rw [if_neg (by omega),if_neg (by omega),if_neg (by omega),if_neg (by omega),if_neg (by omega),if_neg (by omega),if_neg (by omega),if_neg (by omega),if_neg (by omega),if_neg (by omega),if_neg (by omega),if_neg (by omega)]
  rw [e]
  decide
theorem sep_ln (h:EH):(sep h).length≤4:=by
 unfold sep
 split
 ·exact mark_ln _
 ·simp
theorem par_ln (b:Bool) (l:Bs):(par b l).length≤l.length+2:=by
 unfold par
 split<;>simp
include hn ht in
theorem txK_ln:∀(k:Exs) (p:EH) (f:Bool),errL rn cn k=0→NnX k→(txK tx p f k).length≤4000*k.size
 | .nil,_,_,_,_=>by simp [txK]
 | .cons h k r,p,f,he,hs=>by
   obtain ⟨hh,hr⟩:=RX_kid he
   have i1:=txK_ln k h true hh.2 hs.2.1
   have i2:=txK_ln r p false hr hs.2.2
   have e1:=pre_ln hn ht h k.len hs.1 hh.1
   have e2:=post_ln h
   have e3:=sep_ln p
   have e4:=par_ln (decide (level h<kidL p f)) (pre tx h++txK tx h true k++post h)
   unfold txK
   simp only [List.length_append,Exs.size] at e4 ⊢
   have e5:(if f then [] else sep p:Bs).length≤4:=by
    split
    ·simp
    ·exact e3
   omega
include hn ht in
theorem txF_ln (k:Exs) (he:errL rn cn k=0) (hs:NnX k):(txF tx k).length≤4000*k.size:=by
 cases k with
 | nil=>simp [txF]
 | cons h k r =>
   obtain ⟨hh,hr⟩:=RX_kid he
   have i1:=txK_ln hn ht k h true hh.2 hs.2.1
   have e1:=pre_ln hn ht h k.len hs.1 hh.1
   have e2:=post_ln h
   simp only [txF,Te.bare,List.length_append,Exs.size]
   omega
theorem pad_ln (n:Nat):(Te.pad n).length=2*n:=by
 unfold Te.pad
 induction n with
 | zero=>rfl
 | succ n ih=>rw [List.replicate_succ,List.flatten_cons,List.length_append,ih];simp;omega
include hn ht in
theorem stT_ln:∀(s:Sts) (n:Nat) (acc:Int),n≤32→errS rn cn s=0→NnS s→dS s (n:Int) acc≤32→(stT tx s n).length≤5000*s.size
 | .nil,_,_,_,_,_,_=>by simp [stT]
 | .cons h e b l r,n,acc,hn2,he,hs,hd=>by
   rw [errS] at he
   obtain ⟨a1,a2⟩:=orE_0 he
   obtain ⟨a3,a4⟩:=orE_0 a1
   obtain ⟨a5,a6⟩:=orE_0 a4
   obtain ⟨a7,a8⟩:=orE_0 a6
   obtain ⟨s1,s2,s3,s4⟩:=hs
   obtain ⟨d1,d2,d3,acc',d4⟩:=dS_cons (by omega) (by omega) hd
   have i0:=stT_ln r n acc' hn2 a2 s4 d4
   have i1:=txF_ln hn ht e a5 s1
   have ib:hasBody h.kind=true∨0<b.len→(stT tx b (n+1)).length≤5000*b.size:=fun hb=>by
    have:=d2 hb
    have:=dS_acc b ((n:Int)+1) ((n:Int)+1)
    exact stT_ln b (n+1) ((n:Int)+1) (by omega) a7 s2 (by simpa using d2 hb)
   have il:h.kind=8∨0<l.len→(stT tx l (n+1)).length≤5000*l.size:=fun hb=>by
    have:=d3 hb
    have:=dS_acc l ((n:Int)+1) ((n:Int)+1)
    exact stT_ln l (n+1) ((n:Int)+1) (by omega) a8 s3 (by simpa using d3 hb)
   have hnm:h.kind=1∨h.kind=2∨h.kind=8→h.name.length≤32:=by
    intro hk
    unfold errSH at a3
    obtain ⟨_,q⟩:=orE_0 a3
    unfold nameS at q
    rw [if_pos (by omega)] at q
    exact hn _ q
   have hp:=pad_ln n
   unfold stT
   simp only [List.length_append,Sts.size]
   by_cases k1:h.kind=1
   ·have:=hnm (by omega)
    simp only [if_pos k1,List.length_append,List.length_cons,List.length_nil]
    omega
   by_cases k2:h.kind=2
   ·have:=hnm (by omega)
    simp only [if_neg k1,if_pos k2,List.length_append,List.length_cons,List.length_nil]
    omega
   by_cases k3:h.kind=3
   ·have:=ib (Or.inl (by rw [k3];rfl))
    simp only [if_neg k1,if_neg k2,if_pos k3,List.length_append,List.length_cons,List.length_nil]
    by_cases hl:0<l.len
    ·have:=il (Or.inr hl)
     simp only [if_pos hl,List.length_append,List.length_cons,List.length_nil]
     omega
    ·simp only [if_neg hl,List.length_nil]
     omega
   by_cases k4:h.kind=4
   ·have:=ib (Or.inl (by rw [k4];rfl))
    simp only [if_neg k1,if_neg k2,if_neg k3,if_pos k4,List.length_append,List.length_cons,List.length_nil]
    omega
   by_cases k5:h.kind=5
   ·simp only [if_neg k1,if_neg k2,if_neg k3,if_neg k4,if_pos k5,List.length_append,List.length_cons,List.length_nil]
    split
    ·simp only [List.length_cons];omega
    ·simp only [List.length_nil];omega
   by_cases k6:h.kind=6
   ·simp only [if_neg k1,if_neg k2,if_neg k3,if_neg k4,if_neg k5,if_pos k6,List.length_append,List.length_cons,List.length_nil]
    omega
   by_cases k7:h.kind=7
   ·simp only [if_neg k1,if_neg k2,if_neg k3,if_neg k4,if_neg k5,if_neg k6,if_pos k7,List.length_append,List.length_cons,List.length_nil]
    omega
   by_cases k8:h.kind=8
   ·have:=ib (Or.inl (by rw [k8];rfl))
    have:=il (Or.inl k8)
    have:=hnm (by omega)
    simp only [if_neg k1,if_neg k2,if_neg k3,if_neg k4,if_neg k5,if_neg k6,if_neg k7,if_pos k8,List.length_append,List.length_cons,List.length_nil]
    omega
   ·simp only [if_neg k1,if_neg k2,if_neg k3,if_neg k4,if_neg k5,if_neg k6,if_neg k7,if_neg k8,List.length_append,List.length_cons,List.length_nil]
    omega
theorem tyT_ln (t:Int):(tyT t).length≤7:=by
 unfold tyT
 repeat' split
 all_goals simp
include hn in
theorem paT_ln:∀(l:List Pa),errP rn l=0→(paT l).length≤100*l.length
 | [],_=>by simp [paT]
 | [p],h=>by
   have h1:=(orE_0 (orE_0 h).1).1
   have:=hn _ h1
   have:=tyT_ln p.type
   simp only [paT,List.length_append,List.length_cons,List.length_nil]
   omega
 | p::q::r,h=>by
   have h1:=(orE_0 (orE_0 h).1).1
   have:=hn _ h1
   have:=tyT_ln p.type
   have:=paT_ln (q::r) (orE_0 h).2
   simp only [paT,List.length_append,List.length_cons,List.length_nil] at *
   omega
include hn ht in
theorem deT_ln (d:De) (he:errD rn cn d=0) (hN:NnD d):(deT tx d).length≤5000*ndD d:=by
 unfold errD at he
 obtain ⟨a1,a2⟩:=orE_0 he
 obtain ⟨a3,a4⟩:=orE_0 a2
 obtain ⟨a5,a6⟩:=orE_0 a4
 obtain ⟨a7,a8⟩:=orE_0 a6
 obtain ⟨a9,b1⟩:=orE_0 a8
 obtain ⟨b2,b3⟩:=orE_0 b1
 have hdd:dD d≤32:=by
  apply Classical.byContradiction
  intro hc
  rw [if_pos (by omega)] at a1
  exact absurd a1 (by decide)
 have hfit:=ifx (c:=fitsD d=true) a3 (by decide)
 have hnm:=hn _ a5
 have hty:=tyT_ln d.type
 have hx:(exT d.ex).length≤7:=by unfold exT;split<;>simp
 have hF:=txF_ln hn ht d.e b2 hN.1
 have hP:=paT_ln hn d.params a9
 unfold deT ndD
 by_cases k1:d.kind=1
 ·simp only [if_pos k1,List.length_append,List.length_cons,List.length_nil]
  omega
 by_cases k2:d.kind=2
 ·simp only [if_neg k1,if_pos k2,List.length_append,List.length_cons,List.length_nil]
  omega
 ·have k3:d.kind=3:=by
   apply Classical.byContradiction
   intro k3
   unfold fitsD at hfit
   rw [if_neg k1,if_neg k2,if_neg k3] at hfit
   exact absurd hfit (by decide)
  have hS:=stT_ln hn ht d.body 1 1 (by decide) b3 hN.2 (by have:=(dD_of hdd).2 k3;simpa using this)
  simp only [if_neg k1,if_neg k2,List.length_append,List.length_cons,List.length_nil]
  omega
include hn ht in
theorem desT_ln:∀(l:List De),errDs rn cn l=0→(∀d∈l,NnD d)→(l.flatMap (deT tx)).length≤5000*fDs l
 | [],_,_=>by simp
 | d::r,he,hN=>by
   obtain ⟨h1,h2⟩:=orE_0 he
   have i:=desT_ln r h2 (fun x hx=>hN x (by simp [hx]))
   have j:=deT_ln hn ht d h1 (hN d (by simp))
   simp only [List.flatMap_cons,List.length_append,fDs,List.map_cons,List.sum_cons] at *
   omega
include hn in
theorem impT_ln:∀(l:List Bs),errI rn l=0→(l.flatMap (fun x=>[105,109,112,111,114,116,32]++x++[59,10])).length≤100*l.length
 | [],_=>by simp
 | x::r,he=>by
   obtain ⟨h1,h2⟩:=orE_0 he
   have i:=impT_ln r h2
   have j:=hn _ h1
   rw [List.flatMap_cons]
   simp only [List.length_append,List.length_cons,List.length_nil] at *
   omega
include hn ht in
theorem moT_ln (m:Mo) (he:errM rn cn m=0) (hN:∀d∈m.decls,NnD d):(moT tx m).length≤100+100*m.imports.length+5000*fDs m.decls:=by
 unfold errM at he
 obtain ⟨a1,a2⟩:=orE_0 he
 obtain ⟨a3,a4⟩:=orE_0 a2
 obtain ⟨a5,a6⟩:=orE_0 a4
 obtain ⟨a7,a8⟩:=orE_0 a6
 have h1:=hn _ a1
 have h2:=impT_ln hn m.imports a5
 have h3:=desT_ln hn ht m.decls a8 hN
 unfold moT
 rw [List.length_append,List.length_append]
 simp only [List.length_append,List.length_cons,List.length_nil] at *
 omega
end
end Pz
end
end Go.Proofs.YteijjaabngkbjaaGreatDoor
