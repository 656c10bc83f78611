/- TrX2 TrQ3 TrQ4 TrX3 PxC -/
import Derived.Test.YteijjaabngkbjaaGreatDoorTrGB
import Derived.Deep.QuietTactic
import Derived.BigQuiet
set_option maxRecDepth 100000
set_option maxHeartbeats 40000000
set_option linter.unusedVariables false
set_option linter.unusedSimpArgs false
set_option linter.unusedSectionVars false
namespace Go.Proofs.YteijjaabngkbjaaGreatDoor.X
open Go.RowKit Te
def SameB (k:Sts):Prop:=∀(k2:Sts) (ao ao2:Option Addr) (cap cap2:Nat) (w:World),StL w ao cap k→StL w ao2 cap2 k2 →
 Calls Tryz.prog 72 #[.slice ao k.len cap,.slice ao2 k2.len cap2] w fun e w'=>e = .returned (.bool (decide (k=k2)))∧Fr (fun _=>False) w w'
theorem sameB_step (k:Sts) (ih:∀k':Sts,k'.size<k.size→SameB k'):SameB k:=by
 intro k2 ao ao2 cap cap2 w e1 e2
 have r1:=e1.rest
 have r2:=e2.rest
 have l1:k.len≤9223372036854775807:=by have:=e1.1;have:=e1.2.1;unfold maxLen at this;omega
 have l2:k2.len≤9223372036854775807:=by have:=e2.1;have:=e2.2.1;unfold maxLen at this;omega
 have m1:=e1.1
 have m2:=e2.1
 obtain ⟨R,hR⟩:∃R,decide (k=k2)=R:=⟨_,rfl⟩
 rw [hR]
 have hRH:Hidden (decide (k=k2)=R):=hR
 clear hR
 by_cases hlen:k.len=k2.len
 ·have hne:((k.len:Int) != (k2.len:Int))=false:=by simp [hlen]
  have hlenH:Hidden (k.len=k2.len):=hlen
  clear hlen
  go_enter Tryz.func72,Tryz.ntmps72
  go_wp2_with fail
  go_loopg [5] k.len (fun g iv wr=>∃(i:Nat) (r q:Sts),iv=ci (i:Int)∧i+r.len=k.len∧i+q.len=k2.len∧r.size≤k.size∧StR w ao i r∧StR w ao2 i q∧R=decide (r=q)∧g=r.len∧Fr (fun _=>False) w wr)
  case atStart=>exact ⟨0,k,k2,rfl,by omega,by omega,Nat.le_refl _,r1,r2,(show _=R from hRH).symm,rfl,Fr.refl _ _⟩
  case round =>
   obtain ⟨i,r,q,rfl,hl1,hl2,hsize,hrow,hrow2,hdk,hgk,hfr⟩:=hrel
   have hgkH:Hidden (gk=r.len):=hgk
   have hdkH:Hidden (R=decide (r=q)):=hdk
   have hl1H:Hidden (i+r.len=k.len):=hl1
   have hl2H:Hidden (i+q.len=k2.len):=hl2
   clear hgk hdk hl1 hl2 r1 r2
   cases r with
   | nil =>
     have hi:i=k.len:=hl1H
     have hq:q.len=0:=by have:i+q.len=k2.len:=hl2H;have:k.len=k2.len:=hlenH;omega
     have hq0:q = .nil:=by
      cases q with
      | nil=>rfl
      | cons _ _ _ _ _=>simp [Sts.len] at hq
     have hres:Hidden (true=R):=by rw [show R=_ from hdkH,hq0];rfl
     clear hq hq0 hrow2 hrow
     subst hi
     go_wp2_with fail
     go_ret
     exact ⟨ret_b hres,hfr⟩
   | cons h' e' b' l' r' =>
     cases q with
     | nil =>
       exfalso
       have a1:i+(r'.len+1)=k.len:=hl1H
       have a2:i+0=k2.len:=hl2H
       have a3:k.len=k2.len:=hlenH
       omega
     | cons h'' e'' b'' l'' r'' =>
       have hil:i<k.len:=by have:i+(r'.len+1)=k.len:=hl1H;omega
       have hil2:i<k2.len:=by have:i+(r''.len+1)=k2.len:=hl2H;omega
       obtain ⟨b,off,a1,p1,a2,p2,a3,p3,rfl,hL1,hL2,hL3,hn1,d0,d1,d2,d3,d4⟩:=hrow.next
       obtain ⟨bb,off',a1',p1',a2',p2',a3',p3',rfl,hM1,hM2,hM3,hn2,c0,c1,c2,c3,c4⟩:=hrow2.next
       have d0:=hfr.cellN d0
       have c0:=hfr.cellN c0
       have d1:=hfr.cellN d1
       have c1:=hfr.cellN c1
       have d2:=hfr.cellN d2
       have c2:=hfr.cellN c2
       have d3:=hfr.cellN d3
       have c3:=hfr.cellN c3
       have d4:=hfr.cellN d4
       have c4:=hfr.cellN c4
       simp only [Sts.size] at hsize
       have ke:=fun (w1:World) (f:Fr (fun _=>False) w w1)=>sameL_any e' e'' a1 a1' p1 p1' w1 (hL1.keep f) (hM1.keep f)
       have kb:=fun (w1:World) (f:Fr (fun _=>False) w w1)=>ih b' (by omega) b'' a2 a2' p2 p2' w1 (hL2.keep f) (hM2.keep f)
       have kl:=fun (w1:World) (f:Fr (fun _=>False) w w1)=>ih l' (by omega) l'' a3 a3' p3 p3' w1 (hL3.keep f) (hM3.keep f)
       obtain ⟨kind,name⟩:=h'
       obtain ⟨kind2,name2⟩:=h''
       go_wp2_with fail
       refine wp_region_grow (by kernel_rfl) (by kernel_rfl) ?_
       by_cases hk:kind=kind2
       ·subst hk
        by_cases hn:name=name2
        ·subst hn
         have hdk2:Hidden (R=(decide (e'=e'') && (decide (b'=b'') && (decide (l'=l'') && decide (r'=r''))))):=by
          show R=_
          rw [show R=_ from hdkH,Bool.eq_iff_iff]
          simp [and_assoc]
         generalize decide (e'=e'')=re at ke hdk2
         generalize decide (b'=b'')=rb at kb hdk2
         generalize decide (l'=l'')=rl at kl hdk2
         clear hdkH
         cases re
         ·have hres:Hidden (false=R):=(show R=false from hdk2).symm
          clear hdk2 kb kl
          (repeat (first | (refine grow_op (v:=?_) ?_ ?_ ?_;rotate_left;(focus (first | exact wanted_none rfl | (go_simp;done)));(focus (intro w' hw';have d0:=hw'.cellN d0;have d1:=hw'.cellN d1;have d2:=hw'.cellN d2;have d3:=hw'.cellN d3;have d4:=hw'.cellN d4;have c0:=hw'.cellN c0;have c1:=hw'.cellN c1;have c2:=hw'.cellN c2;have c3:=hw'.cellN c3;have c4:=hw'.cellN c4;(go_simp;first | with_reducible rfl | (go_at_call 71;refine calls_grow hw' ?_;first | (have q:=ke _ (hfr.same hw');with_reducible exact q)) | (go_at_call 72;refine calls_grow hw' ?_;first | (have q:=kb _ (hfr.same hw');with_reducible exact q) | (have q:=kl _ (hfr.same hw');with_reducible exact q)))));(intro a' ha;simp only [Act.put,List.setIfInBounds_toArray,List.set_cons_zero,List.set_cons_succ] at ha;subst ha)) | (refine grow_no ?_ ?_;(focus (go_simp;done));(intro a' ha;simp only [Act.put,List.setIfInBounds_toArray,List.set_cons_zero,List.set_cons_succ] at ha;subst ha))));refine grow_nil ?_;intro w1 k1
          all_goals
           go_wp2_with fail
           go_ret
           exact ⟨ret_b hres,hfr.same k1⟩
         ·cases rb
          ·have hres:Hidden (false=R):=(show R=false from hdk2).symm
           clear hdk2 kl
           (repeat (first | (refine grow_op (v:=?_) ?_ ?_ ?_;rotate_left;(focus (first | exact wanted_none rfl | (go_simp;done)));(focus (intro w' hw';have d0:=hw'.cellN d0;have d1:=hw'.cellN d1;have d2:=hw'.cellN d2;have d3:=hw'.cellN d3;have d4:=hw'.cellN d4;have c0:=hw'.cellN c0;have c1:=hw'.cellN c1;have c2:=hw'.cellN c2;have c3:=hw'.cellN c3;have c4:=hw'.cellN c4;(go_simp;first | with_reducible rfl | (go_at_call 71;refine calls_grow hw' ?_;first | (have q:=ke _ (hfr.same hw');with_reducible exact q)) | (go_at_call 72;refine calls_grow hw' ?_;first | (have q:=kb _ (hfr.same hw');with_reducible exact q) | (have q:=kl _ (hfr.same hw');with_reducible exact q)))));(intro a' ha;simp only [Act.put,List.setIfInBounds_toArray,List.set_cons_zero,List.set_cons_succ] at ha;subst ha)) | (refine grow_no ?_ ?_;(focus (go_simp;done));(intro a' ha;simp only [Act.put,List.setIfInBounds_toArray,List.set_cons_zero,List.set_cons_succ] at ha;subst ha))));refine grow_nil ?_;intro w1 k1
           all_goals
            go_wp2_with fail
            go_ret
            exact ⟨ret_b hres,hfr.same k1⟩
          ·cases rl
           ·have hres:Hidden (false=R):=(show R=false from hdk2).symm
            clear hdk2
            (repeat (first | (refine grow_op (v:=?_) ?_ ?_ ?_;rotate_left;(focus (first | exact wanted_none rfl | (go_simp;done)));(focus (intro w' hw';have d0:=hw'.cellN d0;have d1:=hw'.cellN d1;have d2:=hw'.cellN d2;have d3:=hw'.cellN d3;have d4:=hw'.cellN d4;have c0:=hw'.cellN c0;have c1:=hw'.cellN c1;have c2:=hw'.cellN c2;have c3:=hw'.cellN c3;have c4:=hw'.cellN c4;(go_simp;first | with_reducible rfl | (go_at_call 71;refine calls_grow hw' ?_;first | (have q:=ke _ (hfr.same hw');with_reducible exact q)) | (go_at_call 72;refine calls_grow hw' ?_;first | (have q:=kb _ (hfr.same hw');with_reducible exact q) | (have q:=kl _ (hfr.same hw');with_reducible exact q)))));(intro a' ha;simp only [Act.put,List.setIfInBounds_toArray,List.set_cons_zero,List.set_cons_succ] at ha;subst ha)) | (refine grow_no ?_ ?_;(focus (go_simp;done));(intro a' ha;simp only [Act.put,List.setIfInBounds_toArray,List.set_cons_zero,List.set_cons_succ] at ha;subst ha))));refine grow_nil ?_;intro w1 k1
            all_goals
             go_wp2_with fail
             go_ret
             exact ⟨ret_b hres,hfr.same k1⟩
           ·have hdk3:Hidden (R=decide (r'=r'')):=hdk2
            clear hdk2
            (repeat (first | (refine grow_op (v:=?_) ?_ ?_ ?_;rotate_left;(focus (first | exact wanted_none rfl | (go_simp;done)));(focus (intro w' hw';have d0:=hw'.cellN d0;have d1:=hw'.cellN d1;have d2:=hw'.cellN d2;have d3:=hw'.cellN d3;have d4:=hw'.cellN d4;have c0:=hw'.cellN c0;have c1:=hw'.cellN c1;have c2:=hw'.cellN c2;have c3:=hw'.cellN c3;have c4:=hw'.cellN c4;(go_simp;first | with_reducible rfl | (go_at_call 71;refine calls_grow hw' ?_;first | (have q:=ke _ (hfr.same hw');with_reducible exact q)) | (go_at_call 72;refine calls_grow hw' ?_;first | (have q:=kb _ (hfr.same hw');with_reducible exact q) | (have q:=kl _ (hfr.same hw');with_reducible exact q)))));(intro a' ha;simp only [Act.put,List.setIfInBounds_toArray,List.set_cons_zero,List.set_cons_succ] at ha;subst ha)) | (refine grow_no ?_ ?_;(focus (go_simp;done));(intro a' ha;simp only [Act.put,List.setIfInBounds_toArray,List.set_cons_zero,List.set_cons_succ] at ha;subst ha))));refine grow_nil ?_;intro w1 k1
            all_goals
             go_wp2_with fail
             go_roundg r'.len
             case measure =>
              have:gk=r'.len+1:=hgkH
              omega
             case rel =>
              refine ⟨i+1,r',r'',by go_num,?_,?_,by omega,hn1,hn2,hdk3,rfl,hfr.same k1⟩
              ·have:i+(r'.len+1)=k.len:=hl1H
               omega
              ·have:i+(r''.len+1)=k2.len:=hl2H
               omega
        ·have hres:Hidden (false=R):=by
          show false=R
          rw [show R=_ from hdkH]
          symm
          simp only [decide_eq_false_iff_not]
          intro hc
          cases hc
          exact hn rfl
         have t1:(name == name2)=false:=by rw [beq_eq_false_iff_ne];exact hn
         have t2:(name != name2)=true:=by rw [bne,t1];rfl
         clear hdkH ke kb kl hn
         (repeat (first | (refine grow_op (v:=?_) ?_ ?_ ?_;rotate_left;(focus (first | exact wanted_none rfl | (go_simp;done)));(focus (intro w' hw';have d0:=hw'.cellN d0;have d1:=hw'.cellN d1;have d2:=hw'.cellN d2;have d3:=hw'.cellN d3;have d4:=hw'.cellN d4;have c0:=hw'.cellN c0;have c1:=hw'.cellN c1;have c2:=hw'.cellN c2;have c3:=hw'.cellN c3;have c4:=hw'.cellN c4;(go_simp;with_reducible rfl)));(intro a' ha;simp only [Act.put,List.setIfInBounds_toArray,List.set_cons_zero,List.set_cons_succ] at ha;subst ha)) | (refine grow_no ?_ ?_;(focus (go_simp;done));(intro a' ha;simp only [Act.put,List.setIfInBounds_toArray,List.set_cons_zero,List.set_cons_succ] at ha;subst ha))));refine grow_nil ?_;intro w1 k1
         all_goals
          go_wp2_with fail
          go_ret
          exact ⟨ret_b hres,hfr.same k1⟩
       ·have hres:Hidden (false=R):=by
         show false=R
         rw [show R=_ from hdkH]
         symm
         simp only [decide_eq_false_iff_not]
         intro hc
         cases hc
         exact hk rfl
        have t1:(kind == kind2)=false:=by rw [beq_eq_false_iff_ne];exact hk
        have t2:(kind != kind2)=true:=by rw [bne,t1];rfl
        clear hdkH ke kb kl hk
        (repeat (first | (refine grow_op (v:=?_) ?_ ?_ ?_;rotate_left;(focus (first | exact wanted_none rfl | (go_simp;done)));(focus (intro w' hw';have d0:=hw'.cellN d0;have d1:=hw'.cellN d1;have d2:=hw'.cellN d2;have d3:=hw'.cellN d3;have d4:=hw'.cellN d4;have c0:=hw'.cellN c0;have c1:=hw'.cellN c1;have c2:=hw'.cellN c2;have c3:=hw'.cellN c3;have c4:=hw'.cellN c4;(go_simp;with_reducible rfl)));(intro a' ha;simp only [Act.put,List.setIfInBounds_toArray,List.set_cons_zero,List.set_cons_succ] at ha;subst ha)) | (refine grow_no ?_ ?_;(focus (go_simp;done));(intro a' ha;simp only [Act.put,List.setIfInBounds_toArray,List.set_cons_zero,List.set_cons_succ] at ha;subst ha))));refine grow_nil ?_;intro w1 k1
        all_goals
         go_wp2_with fail
         go_ret
         exact ⟨ret_b hres,hfr.same k1⟩
 ·have hne:((k.len:Int) != (k2.len:Int))=true:=by rw [bne_iff_ne];omega
  have hres:Hidden (false=R):=by
   rw [←(show _=R from hRH)]
   show false=decide (k=k2)
   symm
   simp only [decide_eq_false_iff_not]
   intro hc
   exact hlen (by rw [hc])
  clear hlen
  go_enter Tryz.func72,Tryz.ntmps72
  go_wp2_with fail
  go_ret
  exact ⟨ret_b hres,Fr.refl _ _⟩
theorem sameB_any (k:Sts):SameB k:=by
 have:∀(n:Nat) (k:Sts),k.size<n→SameB k:=by
  intro n
  induction n with
  | zero=>intro k hk;omega
  | succ n ih=>intro k hk;exact sameB_step k (fun k' hk'=>ih k' (by omega))
 exact this (k.size+1) k (by omega)
end Go.Proofs.YteijjaabngkbjaaGreatDoor.X
namespace Go.Proofs.YteijjaabngkbjaaGreatDoor
open Go.RowKit Te
theorem drewN_q {S:Nat→Prop} {w w':World} (h:Fr S w w') (n:Nat):Fr S w (w'.drewN n):=⟨h.os,h.output,h.size,h.block⟩
theorem drop_eq {α:Type} [DecidableEq α] {l l2:List α} {i:Nat} {x y:α} (hx:l[i]?=some x) (hy:l2[i]?=some y):decide (l.drop i=l2.drop i)=(decide (x=y) && decide (l.drop (i+1)=l2.drop (i+1))):=by
 rw [drop_at hx,drop_at hy,Bool.eq_iff_iff]
 simp
end Go.Proofs.YteijjaabngkbjaaGreatDoor
namespace Go.Proofs.YteijjaabngkbjaaGreatDoor
open Go.RowKit Te
abbrev moB (m:Mo) (v1 v2:Value):Obj:=.cells #[ct m.name,v1,v2] 25 (0,0)
end Go.Proofs.YteijjaabngkbjaaGreatDoor
namespace Go.Proofs.YteijjaabngkbjaaGreatDoor.X
open Go.RowKit Te
theorem sameD_any (d d2:De) (pv ev bv pv2 ev2 bv2:Value) (w:World) (h1:DeI w d pv ev bv) (h2:DeI w d2 pv2 ev2 bv2) (R:Bool) (hR:Hidden (decide (d=d2)=R)) :
 Calls Tryz.prog 34 #[deV d pv ev bv,deV d2 pv2 ev2 bv2] w fun ee w'=>ee = .returned (.bool R)∧Fr (fun _=>False) w w':=by
 obtain ⟨ao1,cap1,ao2,cap2,ao3,cap3,rfl,rfl,rfl,p1,p2,p3⟩:=h1
 obtain ⟨ao1',cap1',ao2',cap2',ao3',cap3',rfl,rfl,rfl,q1,q2,q3⟩:=h2
 obtain ⟨kind,ex,name,type,params,e,body⟩:=d
 obtain ⟨kind2,ex2,name2,type2,params2,e2,body2⟩:=d2
 simp only at p1 p2 p3 q1 q2 q3
 have n1:params.length≤9223372036854775807:=by have:=p1.1;have:=p1.2.1;unfold maxLen at this;omega
 have n2:params2.length≤9223372036854775807:=by have:=q1.1;have:=q1.2.1;unfold maxLen at this;omega
 have m1:=p1.1
 have m2:=q1.1
 by_cases hh:kind=kind2∧ex=ex2∧name=name2∧type=type2
 ·obtain ⟨rfl,rfl,rfl,rfl⟩:=hh
  have f0:Fr (fun _=>False) w ((w.alloc (.cells #[ci kind,.bool ex,ct name,ci type,.slice ao1 params.length cap1,.slice ao2 e.len cap2,.slice ao3 body.len cap3] 51)).alloc (.cells #[ci kind,.bool ex,ct name,ci type,.slice ao1' params2.length cap1',.slice ao2' e2.len cap2',.slice ao3' body2.len cap3'] 51)):=(Fr.alloc _ _ _).same (Fr.alloc _ _ _)
  have x1:Hidden (((w.alloc (.cells #[ci kind,.bool ex,ct name,ci type,.slice ao1 params.length cap1,.slice ao2 e.len cap2,.slice ao3 body.len cap3] 51)).alloc (.cells #[ci kind,.bool ex,ct name,ci type,.slice ao1' params2.length cap1',.slice ao2' e2.len cap2',.slice ao3' body2.len cap3'] 51)).heap[w.heap.size]?=some (.cells #[ci kind,.bool ex,ct name,ci type,.slice ao1 params.length cap1,.slice ao2 e.len cap2,.slice ao3 body.len cap3] 51 (0,0))):=(Fr.alloc (fun _=>False) _ _).heap (alloc_new _ _) (fun f=>f)
  have x2:Hidden (((w.alloc (.cells #[ci kind,.bool ex,ct name,ci type,.slice ao1 params.length cap1,.slice ao2 e.len cap2,.slice ao3 body.len cap3] 51)).alloc (.cells #[ci kind,.bool ex,ct name,ci type,.slice ao1' params2.length cap1',.slice ao2' e2.len cap2',.slice ao3' body2.len cap3'] 51)).heap[w.heap.size+1]?=some (.cells #[ci kind,.bool ex,ct name,ci type,.slice ao1' params2.length cap1',.slice ao2' e2.len cap2',.slice ao3' body2.len cap3'] 51 (0,0))):=(congrArg _ (by simp)).trans (alloc_new _ _)
  have ke2:=fun (w1:World) (f:Fr (fun _=>False) w w1)=>sameL_any e e2 ao2 ao2' cap2 cap2' w1 (p2.keep f) (q2.keep f)
  have kb2:=fun (w1:World) (f:Fr (fun _=>False) w w1)=>sameB_any body body2 ao3 ao3' cap3 cap3' w1 (p3.keep f) (q3.keep f)
  have hR2:Hidden ((decide (params=params2) && (decide (e=e2) && decide (body=body2)))=R):=by
   rw [←(show _=R from hR)]
   show _=decide _
   rw [Bool.eq_iff_iff]
   simp
  clear hR
  generalize decide (e=e2)=re at ke2 hR2
  generalize decide (body=body2)=rb at kb2 hR2
  by_cases hlen:params.length=params2.length
  ·have hne:((params.length:Int) != (params2.length:Int))=false:=by simp [hlen]
   have hlenH:Hidden (params.length=params2.length):=hlen
   clear hlen
   obtain ⟨rp,hrp⟩:∃rp,decide (params=params2)=rp:=⟨_,rfl⟩
   rw [hrp] at hR2
   have hrpH:Hidden (decide (params=params2)=rp):=hrp
   clear hrp
   go_enter Tryz.func34,Tryz.ntmps34
   go_wp2_with fail
   go_loopg [5] params.length (fun g iv wr=>∃(i:Nat),iv=ci (i:Int)∧i≤params.length∧rp=decide (params.drop i=params2.drop i)∧g=params.length - i∧Fr (fun _=>False) ((w.alloc (.cells #[ci kind,.bool ex,ct name,ci type,.slice ao1 params.length cap1,.slice ao2 e.len cap2,.slice ao3 body.len cap3] 51)).alloc (.cells #[ci kind,.bool ex,ct name,ci type,.slice ao1' params2.length cap1',.slice ao2' e2.len cap2',.slice ao3' body2.len cap3'] 51)) wr)
   case atStart=>exact ⟨0,rfl,by omega,(show _=rp from hrpH).symm,rfl,Fr.refl _ _⟩
   case round =>
    obtain ⟨i,rfl,hi,hdk,hgk,hfr⟩:=hrel
    have hgkH:Hidden (gk=params.length - i):=hgk
    have hdkH:Hidden (rp=decide (params.drop i=params2.drop i)):=hdk
    have o4:wr.cell? ⟨w.heap.size,4,none⟩=some (.slice ao1 params.length cap1):=cell_of_row _ _ 4 _ _ _ (hfr.heap x1 (fun f=>f))
    have u4:wr.cell? ⟨w.heap.size+1,4,none⟩=some (.slice ao1' params2.length cap1'):=cell_of_row _ _ 4 _ _ _ (hfr.heap x2 (fun f=>f))
    have o5:wr.cell? ⟨w.heap.size,5,none⟩=some (.slice ao2 e.len cap2):=cell_of_row _ _ 5 _ _ _ (hfr.heap x1 (fun f=>f))
    have u5:wr.cell? ⟨w.heap.size+1,5,none⟩=some (.slice ao2' e2.len cap2'):=cell_of_row _ _ 5 _ _ _ (hfr.heap x2 (fun f=>f))
    clear hgk hdk hrpH
    by_cases hil:i<params.length
    ·have hil2:i<params2.length:=by have:params.length=params2.length:=hlenH;omega
     obtain ⟨x,hx⟩:∃x,params[i]?=some x:=⟨params[i],List.getElem?_eq_getElem hil⟩
     obtain ⟨y,hy⟩:∃y,params2[i]?=some y:=⟨params2[i],List.getElem?_eq_getElem hil2⟩
     rcases p1.2.2 with h0 | ⟨b,off,rfl,hc⟩
     ·rw [h0] at hil;simp at hil
     rcases q1.2.2 with h0 | ⟨b',off',rfl,hc'⟩
     ·rw [h0] at hil2;simp at hil2
     have d0:=(f0.same hfr).cellN (hc i x hx 0 _ rfl)
     have d1:=(f0.same hfr).cellN (hc i x hx 1 _ rfl)
     have c0:=(f0.same hfr).cellN (hc' i y hy 0 _ rfl)
     have c1:=(f0.same hfr).cellN (hc' i y hy 1 _ rfl)
     simp only [Nat.add_zero] at d0 c0
     have hdk2:Hidden (rp=(decide (x=y) && decide (params.drop (i+1)=params2.drop (i+1)))):=by
      show rp=_
      rw [show rp=_ from hdkH]
      exact drop_eq hx hy
     clear o5 u5
     by_cases hxy:x=y
     ·subst hxy
      have hdk3:Hidden (rp=decide (params.drop (i+1)=params2.drop (i+1))):=by
       show rp=_
       rw [show rp=_ from hdk2]
       simp
      clear hdkH hdk2 hx hy hc hc'
      go_wp2_with fail
      go_quiet (fail)
      go_wp2_with fail
      go_roundg (params.length - (i+1))
      case measure =>
       have:gk=params.length - i:=hgkH
       omega
      case rel=>exact ⟨i+1,by go_num,by omega,hdk3,rfl,drewN_q hfr _⟩
     ·have hres:Hidden (false=R):=by
       show false=R
       rw [←(show _=R from hR2),show rp=_ from hdk2,decide_eq_false hxy]
       rfl
      clear hdkH hdk2 hx hy hc hc'
      obtain ⟨nx,tx⟩:=x
      obtain ⟨ny,ty⟩:=y
      by_cases hn:nx=ny
      ·subst hn
       have t3:(tx == ty)=false:=by
        rw [beq_eq_false_iff_ne]
        rintro rfl
        exact hxy rfl
       have t4:¬tx=ty:=by simpa using t3
       have t5:(tx != ty)=true:=by rw [bne,t3];rfl
       clear hxy
       go_wp2_with fail
       go_quiet (fail)
       go_wp2_with fail
       go_ret
       exact ⟨ret_b hres,drewN_q (f0.same hfr) _⟩
      ·have t3:(nx == ny)=false:=by rw [beq_eq_false_iff_ne];exact hn
       have t5:(nx != ny)=true:=by rw [bne,t3];rfl
       clear hxy
       go_wp2_with fail
       go_quiet (fail)
       go_wp2_with fail
       go_ret
       exact ⟨ret_b hres,drewN_q (f0.same hfr) _⟩
    ·obtain rfl:i=params.length:=by omega
     have hrp1:rp=true:=by
      rw [show rp=_ from hdkH,List.drop_length,List.drop_of_length_le (by have:params.length=params2.length:=hlenH;omega)]
      rfl
     subst hrp1
     clear hdkH
     cases re
     ·have hres:Hidden (false=R):=(show _=R from hR2)
      clear hR2
      go_wp2_with fail
      go_at_call 71
      refine (ke2 _ (f0.same hfr)).mono ?_
      rintro ee w1 ⟨rfl,f1⟩
      go_wp2_with fail
      go_ret
      refine ⟨?_,(f0.same hfr).same f1⟩
      exact ret_b hres
     ·have hres:Hidden (rb=R):=(show _=R from hR2)
      clear hR2
      go_wp2_with fail
      go_at_call 71
      refine (ke2 _ (f0.same hfr)).mono ?_
      rintro ee w1 ⟨rfl,f1⟩
      obtain ⟨c0,c1,c2,c3,c4,c5,c6⟩:=ex_box (f1.heap (hfr.heap x1 (fun f=>f)) (fun f=>f))
      obtain ⟨d0,d1,d2,d3,d4,d5,d6⟩:=ex_box (f1.heap (hfr.heap x2 (fun f=>f)) (fun f=>f))
      go_wp2_with fail
      go_at_call 72
      refine (kb2 _ ((f0.same hfr).same f1)).mono ?_
      rintro ee w2 ⟨rfl,f2⟩
      go_wp2_with fail
      go_ret
      refine ⟨?_,((f0.same hfr).same f1).same f2⟩
      exact ret_b hres
  ·have hne:((params.length:Int) != (params2.length:Int))=true:=by rw [bne_iff_ne];omega
   have hres:Hidden (false=R):=by
    show false=R
    rw [←(show _=R from hR2),decide_eq_false (fun h=>hlen (by rw [h]))]
    rfl
   clear hlen hR2
   go_enter Tryz.func34,Tryz.ntmps34
   go_wp2_with fail
   go_ret
   exact ⟨ret_b hres,f0⟩
 ·have hres:Hidden (false=R):=by
   show false=R
   rw [←(show _=R from hR)]
   show false=decide _
   symm
   simp only [decide_eq_false_iff_not,De.mk.injEq]
   exact fun hc=>hh ⟨hc.1,hc.2.1,hc.2.2.1,hc.2.2.2.1⟩
  have hhH:Hidden (¬(kind=kind2∧ex=ex2∧name=name2∧type=type2)):=hh
  clear hh hR
  go_enter Tryz.func34,Tryz.ntmps34
  go_wp2_with fail
  all_goals (first
   | (go_ret
      exact ⟨ret_b hres,(Fr.alloc _ _ _).same (Fr.alloc _ _ _)⟩)
   | (exfalso
      apply (show ¬_ from hhH)
      try simp only [Bool.and_eq_true,beq_iff_eq,bne_eq_false_iff_eq] at *
      simp [*]
      done))
theorem same_any (m m2:Mo) (v v2:Value) (w:World) (hv:MoI w m v) (hv2:MoI w m2 v2) :
 Calls Tryz.prog 15 #[v,v2] w fun e w'=>e = .returned (.bool (decide (m=m2)))∧Fr (fun _=>False) w w':=by
 obtain ⟨ao,cap,aod,capd,rfl,s1,d1⟩:=hv
 obtain ⟨ao',cap',aod',capd',rfl,s2,d2⟩:=hv2
 obtain ⟨name,imports,decls⟩:=m
 obtain ⟨name2,imports2,decls2⟩:=m2
 simp only at s1 d1 s2 d2
 have n1:imports.length≤9223372036854775807:=by have:=s1.1;have:=s1.2.1;unfold maxLen at this;omega
 have n2:imports2.length≤9223372036854775807:=by have:=s2.1;have:=s2.2.1;unfold maxLen at this;omega
 have n3:decls.length≤9223372036854775807:=by have:=d1.1;have:=d1.2.1;unfold maxLen at this;omega
 have n4:decls2.length≤9223372036854775807:=by have:=d2.1;have:=d2.2.1;unfold maxLen at this;omega
 have m1:=s1.1
 have m2:=s2.1
 have m3:=d1.1
 have m4:=d2.1
 obtain ⟨R,hR⟩:∃R,decide ((⟨name,imports,decls⟩:Mo)=⟨name2,imports2,decls2⟩)=R:=⟨_,rfl⟩
 rw [hR]
 have hRH:Hidden (decide ((⟨name,imports,decls⟩:Mo)=⟨name2,imports2,decls2⟩)=R):=hR
 clear hR
 by_cases hn:name=name2
 ·subst hn
  have f0:Fr (fun _=>False) w ((w.alloc (moB ⟨name,imports,decls⟩ (.slice ao imports.length cap) (.slice aod decls.length capd))).alloc (moB ⟨name,imports2,decls2⟩ (.slice ao' imports2.length cap') (.slice aod' decls2.length capd'))):=(Fr.alloc _ _ _).same (Fr.alloc _ _ _)
  have x1:Hidden (((w.alloc (moB ⟨name,imports,decls⟩ (.slice ao imports.length cap) (.slice aod decls.length capd))).alloc (moB ⟨name,imports2,decls2⟩ (.slice ao' imports2.length cap') (.slice aod' decls2.length capd'))).heap[w.heap.size]?=some (moB ⟨name,imports,decls⟩ (.slice ao imports.length cap) (.slice aod decls.length capd))):=(Fr.alloc (fun _=>False) _ _).heap (alloc_new _ _) (fun f=>f)
  have x2:Hidden (((w.alloc (moB ⟨name,imports,decls⟩ (.slice ao imports.length cap) (.slice aod decls.length capd))).alloc (moB ⟨name,imports2,decls2⟩ (.slice ao' imports2.length cap') (.slice aod' decls2.length capd'))).heap[w.heap.size+1]?=some (moB ⟨name,imports2,decls2⟩ (.slice ao' imports2.length cap') (.slice aod' decls2.length capd'))):=(congrArg _ (by simp)).trans (alloc_new _ _)
  have hR2:Hidden ((decide (imports=imports2) && decide (decls=decls2))=R):=by
   rw [←(show _=R from hRH)]
   show _=decide _
   rw [Bool.eq_iff_iff]
   simp
  clear hRH
  by_cases hl1:imports.length=imports2.length
  ·by_cases hl2:decls.length=decls2.length
   ·have hne:((imports.length:Int) != (imports2.length:Int))=false:=by simp [hl1]
    have hne2:((decls.length:Int) != (decls2.length:Int))=false:=by simp [hl2]
    have hl1H:Hidden (imports.length=imports2.length):=hl1
    have hl2H:Hidden (decls.length=decls2.length):=hl2
    clear hl1 hl2
    obtain ⟨rp,hrp⟩:∃rp,decide (imports=imports2)=rp:=⟨_,rfl⟩
    obtain ⟨rd,hrd⟩:∃rd,decide (decls=decls2)=rd:=⟨_,rfl⟩
    rw [hrp,hrd] at hR2
    have hrpH:Hidden (decide (imports=imports2)=rp):=hrp
    have hrdH:Hidden (decide (decls=decls2)=rd):=hrd
    clear hrp hrd
    go_enter Tryz.func15,Tryz.ntmps15
    go_wp2_with fail
    go_loopg [5] imports.length (fun g iv wr=>∃(i:Nat),iv=ci (i:Int)∧i≤imports.length∧rp=decide (imports.drop i=imports2.drop i)∧g=imports.length - i∧Fr (fun _=>False) ((w.alloc (moB ⟨name,imports,decls⟩ (.slice ao imports.length cap) (.slice aod decls.length capd))).alloc (moB ⟨name,imports2,decls2⟩ (.slice ao' imports2.length cap') (.slice aod' decls2.length capd'))) wr)
    case atStart=>exact ⟨0,rfl,by omega,(show _=rp from hrpH).symm,rfl,Fr.refl _ _⟩
    case round =>
     obtain ⟨i,rfl,hi,hdk,hgk,hfr⟩:=hrel
     have hgkH:Hidden (gk=imports.length - i):=hgk
     have hdkH:Hidden (rp=decide (imports.drop i=imports2.drop i)):=hdk
     have o1:wr.cell? ⟨w.heap.size,1,none⟩=some (.slice ao imports.length cap):=cell_of_row _ _ 1 _ _ _ (hfr.heap x1 (fun f=>f))
     have u1:wr.cell? ⟨w.heap.size+1,1,none⟩=some (.slice ao' imports2.length cap'):=cell_of_row _ _ 1 _ _ _ (hfr.heap x2 (fun f=>f))
     clear hgk hdk hrpH
     by_cases hil:i<imports.length
     ·have hil2:i<imports2.length:=by have:imports.length=imports2.length:=hl1H;omega
      obtain ⟨x,hx⟩:∃x,imports[i]?=some x:=⟨imports[i],List.getElem?_eq_getElem hil⟩
      obtain ⟨y,hy⟩:∃y,imports2[i]?=some y:=⟨imports2[i],List.getElem?_eq_getElem hil2⟩
      rcases s1.2.2 with h0 | ⟨b,off,rfl,hc⟩
      ·rw [h0] at hil;simp at hil
      rcases s2.2.2 with h0 | ⟨b',off',rfl,hc'⟩
      ·rw [h0] at hil2;simp at hil2
      have d0:=(f0.same hfr).cellN (hc i x hx)
      have c0:=(f0.same hfr).cellN (hc' i y hy)
      have hdk2:Hidden (rp=(decide (x=y) && decide (imports.drop (i+1)=imports2.drop (i+1)))):=by
       show rp=_
       rw [show rp=_ from hdkH]
       exact drop_eq hx hy
      by_cases hxy:x=y
      ·subst hxy
       have hdk3:Hidden (rp=decide (imports.drop (i+1)=imports2.drop (i+1))):=by
        show rp=_
        rw [show rp=_ from hdk2]
        simp
       clear hdkH hdk2 hx hy hc hc'
       go_wp2_with fail
       go_quiet (fail)
       go_wp2_with fail
       go_roundg (imports.length - (i+1))
       case measure =>
        have:gk=imports.length - i:=hgkH
        omega
       case rel=>exact ⟨i+1,by go_num,by omega,hdk3,rfl,drewN_q hfr _⟩
      ·have hres:Hidden (false=R):=by
        show false=R
        rw [←(show _=R from hR2),show rp=_ from hdk2,decide_eq_false hxy]
        rfl
       clear hdkH hdk2 hx hy hc hc'
       have t3:(x == y)=false:=by rw [beq_eq_false_iff_ne];exact hxy
       have t5:(x != y)=true:=by rw [bne,t3];rfl
       go_wp2_with fail
       go_quiet (fail)
       go_wp2_with fail
       go_ret
       exact ⟨ret_b hres,drewN_q (f0.same hfr) _⟩
     ·obtain rfl:i=imports.length:=by omega
      have hrp1:rp=true:=by
       rw [show rp=_ from hdkH,List.drop_length,List.drop_of_length_le (by have:imports.length=imports2.length:=hl1H;omega)]
       rfl
      subst hrp1
      have hR3:Hidden (rd=R):=(show _=R from hR2)
      clear hdkH hR2 hgkH hi hil
      obtain ⟨V,rfl⟩:∃V,V=wr:=⟨wr,rfl⟩
      have hfrV:=hfr
      clear hfr
      go_wp2_with fail
      go_loopg [6] decls.length (fun g iv wr=>∃(i:Nat),iv=ci (i:Int)∧i≤decls.length∧rd=decide (decls.drop i=decls2.drop i)∧g=decls.length - i∧Fr (fun _=>False) ((w.alloc (moB ⟨name,imports,decls⟩ (.slice ao imports.length cap) (.slice aod decls.length capd))).alloc (moB ⟨name,imports2,decls2⟩ (.slice ao' imports2.length cap') (.slice aod' decls2.length capd'))) wr)
      case atStart=>exact ⟨0,rfl,by omega,(show _=rd from hrdH).symm,rfl,hfrV⟩
      case round =>
       clear o1 u1
       obtain ⟨i,rfl,hi,hdk,hgk,hfr⟩:=hrel
       have hgkH:Hidden (gk=decls.length - i):=hgk
       have hdkH:Hidden (rd=decide (decls.drop i=decls2.drop i)):=hdk
       have o2:wr.cell? ⟨w.heap.size,2,none⟩=some (.slice aod decls.length capd):=cell_of_row _ _ 2 _ _ _ (hfr.heap x1 (fun f=>f))
       have u2:wr.cell? ⟨w.heap.size+1,2,none⟩=some (.slice aod' decls2.length capd'):=cell_of_row _ _ 2 _ _ _ (hfr.heap x2 (fun f=>f))
       clear hgk hdk hrdH
       by_cases hil:i<decls.length
       ·have hil2:i<decls2.length:=by have:decls.length=decls2.length:=hl2H;omega
        obtain ⟨x,hx⟩:∃x,decls[i]?=some x:=⟨decls[i],List.getElem?_eq_getElem hil⟩
        obtain ⟨y,hy⟩:∃y,decls2[i]?=some y:=⟨decls2[i],List.getElem?_eq_getElem hil2⟩
        rcases d1.2.2 with h0 | ⟨b,off,rfl,hc⟩
        ·rw [h0] at hil;simp at hil
        rcases d2.2.2 with h0 | ⟨b',off',rfl,hc'⟩
        ·rw [h0] at hil2;simp at hil2
        obtain ⟨pv,ev,bv,hI,hcc⟩:=hc i x hx
        obtain ⟨pv',ev',bv',hI',hcc'⟩:=hc' i y hy
        have hfr2:=f0.same hfr
        have d0:=hfr2.cellN (hcc 0 _ rfl)
        have d1:=hfr2.cellN (hcc 1 _ rfl)
        have d2:=hfr2.cellN (hcc 2 _ rfl)
        have d3:=hfr2.cellN (hcc 3 _ rfl)
        have d4:=hfr2.cellN (hcc 4 _ rfl)
        have d5:=hfr2.cellN (hcc 5 _ rfl)
        have d6:=hfr2.cellN (hcc 6 _ rfl)
        have c0:=hfr2.cellN (hcc' 0 _ rfl)
        have c1:=hfr2.cellN (hcc' 1 _ rfl)
        have c2:=hfr2.cellN (hcc' 2 _ rfl)
        have c3:=hfr2.cellN (hcc' 3 _ rfl)
        have c4:=hfr2.cellN (hcc' 4 _ rfl)
        have c5:=hfr2.cellN (hcc' 5 _ rfl)
        have c6:=hfr2.cellN (hcc' 6 _ rfl)
        simp only [Nat.add_zero] at d0 c0
        have kd2:=fun (w1:World) (f:Fr (fun _=>False) w w1)=>sameD_any x y pv ev bv pv' ev' bv' w1 (hI.keep f) (hI'.keep f) _ rfl
        obtain ⟨a1,p1,a2,p2,a3,p3,rfl,rfl,rfl,_⟩:=hI
        obtain ⟨a1',p1',a2',p2',a3',p3',rfl,rfl,rfl,_⟩:=hI'
        have hdk2:Hidden (rd=(decide (x=y) && decide (decls.drop (i+1)=decls2.drop (i+1)))):=by
         show rd=_
         rw [show rd=_ from hdkH]
         exact drop_eq hx hy
        generalize decide (x=y)=sb at kd2 hdk2
        clear hdkH hx hy hc hc' hcc hcc'
        go_wp2_with fail
        refine wp_region_grow (by kernel_rfl) (by kernel_rfl) ?_
        cases sb
        ·have hres:Hidden (false=R):=by
          show false=R
          rw [←(show rd=R from hR3),show rd=_ from hdk2]
          rfl
         clear hdk2
         (repeat (first | (refine grow_op (v:=?_) ?_ ?_ ?_;rotate_left;(focus (first | exact wanted_none rfl | (go_simp;done)));(focus (intro w' hw';have o2:=hw'.cellN o2;have u2:=hw'.cellN u2;have d0:=hw'.cellN d0;have d1:=hw'.cellN d1;have d2:=hw'.cellN d2;have d3:=hw'.cellN d3;have d4:=hw'.cellN d4;have d5:=hw'.cellN d5;have d6:=hw'.cellN d6;have c0:=hw'.cellN c0;have c1:=hw'.cellN c1;have c2:=hw'.cellN c2;have c3:=hw'.cellN c3;have c4:=hw'.cellN c4;have c5:=hw'.cellN c5;have c6:=hw'.cellN c6;(go_simp;first | with_reducible rfl | (go_at_call 34;refine calls_grow hw' ?_;first | (have q:=kd2 _ (hfr2.same hw');with_reducible exact q)))));(intro a' ha;simp only [Act.put,List.setIfInBounds_toArray,List.set_cons_zero,List.set_cons_succ] at ha;subst ha)) | (refine grow_no ?_ ?_;(focus (go_simp;done));(intro a' ha;simp only [Act.put,List.setIfInBounds_toArray,List.set_cons_zero,List.set_cons_succ] at ha;subst ha))));refine grow_nil ?_;intro w3 k3
         go_wp2_with fail
         go_ret
         exact ⟨ret_b hres,f0.same (hfr.same k3)⟩
        ·have hdk3:Hidden (rd=decide (decls.drop (i+1)=decls2.drop (i+1))):=by
          show rd=_
          rw [show rd=_ from hdk2]
          simp
         clear hdk2
         (repeat (first | (refine grow_op (v:=?_) ?_ ?_ ?_;rotate_left;(focus (first | exact wanted_none rfl | (go_simp;done)));(focus (intro w' hw';have o2:=hw'.cellN o2;have u2:=hw'.cellN u2;have d0:=hw'.cellN d0;have d1:=hw'.cellN d1;have d2:=hw'.cellN d2;have d3:=hw'.cellN d3;have d4:=hw'.cellN d4;have d5:=hw'.cellN d5;have d6:=hw'.cellN d6;have c0:=hw'.cellN c0;have c1:=hw'.cellN c1;have c2:=hw'.cellN c2;have c3:=hw'.cellN c3;have c4:=hw'.cellN c4;have c5:=hw'.cellN c5;have c6:=hw'.cellN c6;(go_simp;first | with_reducible rfl | (go_at_call 34;refine calls_grow hw' ?_;first | (have q:=kd2 _ (hfr2.same hw');with_reducible exact q)))));(intro a' ha;simp only [Act.put,List.setIfInBounds_toArray,List.set_cons_zero,List.set_cons_succ] at ha;subst ha)) | (refine grow_no ?_ ?_;(focus (go_simp;done));(intro a' ha;simp only [Act.put,List.setIfInBounds_toArray,List.set_cons_zero,List.set_cons_succ] at ha;subst ha))));refine grow_nil ?_;intro w3 k3
         go_wp2_with fail
         go_roundg (decls.length - (i+1))
         case measure =>
          have:gk=decls.length - i:=hgkH
          omega
         case rel=>exact ⟨i+1,by go_num,by omega,hdk3,rfl,hfr.same k3⟩
       ·obtain rfl:i=decls.length:=by omega
        have hres:Hidden (true=R):=by
         show true=R
         rw [←(show rd=R from hR3),show rd=_ from hdkH,List.drop_length,List.drop_of_length_le (by have:decls.length=decls2.length:=hl2H;omega)]
         rfl
        clear hdkH
        go_wp2_with fail
        go_ret
        exact ⟨ret_b hres,f0.same hfr⟩
   ·have hne:((imports.length:Int) != (imports2.length:Int))=false:=by simp [hl1]
    have hne2:((decls.length:Int) != (decls2.length:Int))=true:=by rw [bne_iff_ne];omega
    have hres:Hidden (false=R):=by
     show false=R
     rw [←(show _=R from hR2),decide_eq_false (p:=decls=decls2) (fun h=>hl2 (by rw [h])),Bool.and_false]
    clear hl2 hR2 hl1
    go_enter Tryz.func15,Tryz.ntmps15
    go_wp2_with fail
    go_ret
    exact ⟨ret_b hres,f0⟩
  ·have hne:((imports.length:Int) != (imports2.length:Int))=true:=by rw [bne_iff_ne];omega
   have hres:Hidden (false=R):=by
    show false=R
    rw [←(show _=R from hR2),decide_eq_false (p:=imports=imports2) (fun h=>hl1 (by rw [h]))]
    rfl
   clear hR2 hl1
   go_enter Tryz.func15,Tryz.ntmps15
   go_wp2_with fail
   go_ret
   exact ⟨ret_b hres,f0⟩
 ·have t1:(name == name2)=false:=by rw [beq_eq_false_iff_ne];exact hn
  have t2:(name != name2)=true:=by rw [bne,t1];rfl
  have hres:Hidden (false=R):=by
   show false=R
   rw [←(show _=R from hRH)]
   simp [hn]
  clear hRH
  go_enter Tryz.func15,Tryz.ntmps15
  go_wp2_with fail
  go_ret
  exact ⟨ret_b hres,(Fr.alloc _ _ _).same (Fr.alloc _ _ _)⟩
end Go.Proofs.YteijjaabngkbjaaGreatDoor.X
namespace Go.Proofs.YteijjaabngkbjaaGreatDoor
open Go.RowKit Lx Te
theorem mback_bad (m:Mo) (ao aod:Option Addr) (cap capd:Nat) (w:World) (E:Int) (hE:(E != 0)=true) (ht:F.Tab w)
 (k1:∀w1,Fr (fun _=>False) w w1→Calls Tryz.prog 8 #[moV m ao cap aod capd] w1 fun e w'=>e = .returned (.tuple #[ct [],ci E])∧Fr (fun _=>False) w1 w') :
 Calls Tryz.prog 5 #[moV m ao cap aod capd] w fun e w'=>e = .returned (.bool true)∧Fr (fun _=>False) w w':=by
 have f0:Fr (fun _=>False) w (w.alloc (moO m (.slice ao m.imports.length cap) (.slice aod m.decls.length capd))):=Fr.alloc _ _ _
 go_enter Tryz.func5,Tryz.ntmps5
 go_wp2_with fail
 go_at_call 8
 refine (k1 _ f0).mono ?_
 rintro e w1 ⟨rfl,f1⟩
 have g1:=f0.same f1
 go_wp2_with fail
 go_at_call 13
 refine (alive7_any _ (tab_fr ht g1)).mono ?_
 rintro e w3 ⟨rfl,f3⟩
 go_wp2_with fail
 go_ret
 exact ⟨rfl,g1.same f3⟩
theorem mback_ok (m:Mo) (ao aod:Option Addr) (cap capd:Nat) (w:World) (T:By) (hT:T.length≤140737488351232) (hv:MoI w m (moV m ao cap aod capd)) (ht:F.Tab w)
 (k1:∀w1,Fr (fun _=>False) w w1→Calls Tryz.prog 8 #[moV m ao cap aod capd] w1 fun e w'=>e = .returned (.tuple #[ct T,ci 0])∧Fr (fun _=>False) w1 w')
 (hS:Hidden (Pz.parS T=some (some m,0,0))) :
 Calls Tryz.prog 5 #[moV m ao cap aod capd] w fun e w'=>e = .returned (.bool true)∧Fr (fun _=>False) w w':=by
 have f0:Fr (fun _=>False) w (w.alloc (moO m (.slice ao m.imports.length cap) (.slice aod m.decls.length capd))):=Fr.alloc _ _ _
 have hbx:Hidden ((w.alloc (moO m (.slice ao m.imports.length cap) (.slice aod m.decls.length capd))).heap[w.heap.size]?=some (moO m (.slice ao m.imports.length cap) (.slice aod m.decls.length capd))):=alloc_new _ _
 go_enter Tryz.func5,Tryz.ntmps5
 go_wp2_with fail
 go_at_call 8
 refine (k1 _ f0).mono ?_
 rintro e w1 ⟨rfl,f1⟩
 have g1:=f0.same f1
 have k2:Calls Tryz.prog 14 #[ct T] w1 fun e w'=>∃ao cap ao' cap',e = .returned (.tuple #[.agg #[ct m.name,.slice ao m.imports.length cap,.slice ao' m.decls.length cap'],ci 0,ci 0])∧SvL w' ao cap m.imports∧DeL w' ao' cap' m.decls∧Fr (fun _=>False) w1 w':=par_any T (some m) 0 0 (by omega) hS w1 (tab_fr ht g1)
 go_wp2_with fail
 go_at_call 14
 refine k2.mono ?_
 rintro e w2 ⟨bo,bap,bod,bapd,rfl,s2,d2,f2⟩
 have g2:=g1.same f2
 have fa:=Fr.alloc (fun _=>False) w2 (moO m (.slice bo m.imports.length bap) (.slice bod m.decls.length bapd))
 have g3:=g2.same fa
 obtain ⟨c0,c1,c2⟩:=mo_box (fa.heap (f2.heap (f1.heap hbx (fun f=>f)) (fun f=>f)) (fun f=>f))
 have hby:Hidden ((w2.alloc (moO m (.slice bo m.imports.length bap) (.slice bod m.decls.length bapd))).heap[w2.heap.size]?=some (moO m (.slice bo m.imports.length bap) (.slice bod m.decls.length bapd))):=alloc_new _ _
 obtain ⟨d0,d1,d2'⟩:=mo_box hby
 have ks:=X.same_any m m (moV m ao cap aod capd) (moV m bo bap bod bapd) _ (hv.keep g3) (⟨bo,bap,bod,bapd,rfl,s2.keep fa,d2.keep fa⟩:MoI (w2.alloc (moO m (.slice bo m.imports.length bap) (.slice bod m.decls.length bapd))) m (moV m bo bap bod bapd))
 rw [decide_eq_true rfl] at ks
 go_wp2_with fail
 go_at_call 15
 refine ks.mono ?_
 rintro e w4 ⟨rfl,f4⟩
 have g5:=g3.same f4
 go_wp2_with fail
 go_at_call 13
 refine (alive7_any _ (tab_fr ht g5)).mono ?_
 rintro e w5 ⟨rfl,f5⟩
 go_wp2_with fail
 go_ret
 exact ⟨rfl,g5.same f5⟩
theorem parseBack.walk (v:Value) (m:Mo) (w:World) (hv:MoI w m v) (om:OkM m) (hl:m.name.length+(m.imports.map fun p=>p.length+1).sum+(m.decls.map In.bkD).sum+1≤1048576) (ht:F.Tab w) :
 Calls Tryz.prog 5 #[v] w fun e w'=>e = .returned (.bool true)∧Fr (fun _=>False) w w':=by
 have hsz:m.imports.length+Pz.fDs m.decls≤10000000:=by
  have:=im_sum m.imports
  have:=fDs_bk m.decls
  omega
 have hN:∀d∈m.decls,Pz.NnD d:=fun d hd=>nnD_of (om.decls d hd)
 have k1:=fun (w1:World) (f:Fr (fun _=>False) w w1)=>print_up m v w1 om (hv.keep f) (tab_fr ht f) hsz
 have hv0:=hv
 obtain ⟨ao,cap,aod,capd,rfl,_,_⟩:=hv
 unfold prS at k1
 by_cases he:errM rnS cnS m=0
 ·simp only [he,if_true] at k1
  by_cases h3:(lexS wordsL valS (moT txS m)).2.2=3
  ·simp only [h3,if_true] at k1
   exact mback_bad m ao aod cap capd w 3 (by decide) ht k1
  ·simp only [if_neg h3] at k1
   exact mback_ok m ao aod cap capd w (moT txS m) (by have:=mo_len m he hN hsz;omega) hv0 ht k1 (pr_back m he hN h3)
 ·simp only [if_neg he] at k1
  exact mback_bad m ao aod cap capd w _ (by simpa using he) ht k1
end Go.Proofs.YteijjaabngkbjaaGreatDoor
