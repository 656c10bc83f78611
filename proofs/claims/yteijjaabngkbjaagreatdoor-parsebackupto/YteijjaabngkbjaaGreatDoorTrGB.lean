/- PyI PxA TrIn TrB PzA PwP TrQ TrX1 TrG -/
import Derived.Test.YteijjaabngkbjaaGreatDoorPyHB
import Derived.Test.YteijjaabngkbjaaGreatDoorPsE2B
import Derived.Test.YteijjaabngkbjaaGreatDoorTrTAll
import Derived.Test.YteijjaabngkbjaaGreatDoorTrLAll
import Derived.Test.YteijjaabngkbjaaGreatDoorNyAB
import Derived.Deep.Slices
import Derived.Deep.Strs
import Derived.ChangeSlices
import Derived.ChangeArms
import Derived.DataReads
import Derived.Deep.RegionHeld3
import Derived.Deep.Quiet
import Derived.Deep.QuietTactic
import Derived.BigQuiet
set_option maxRecDepth 100000
set_option maxHeartbeats 40000000
set_option linter.unusedVariables false
set_option linter.unusedSimpArgs false
set_option linter.unusedSectionVars false
namespace Go.Proofs.YteijjaabngkbjaaGreatDoor
open Go.RowKit Te
theorem decl_3t (name:Bs) (ty:Int) (hty:ty=0∨ty=1∨ty=2∨ty=3) (acc T:Bs) (w0 w:World) (B b:Nat) (ht:F.Tab w0) (hw:PW w0 B b acc w) (ao1 ao2 ao3:Option Addr) (n2 cap1 cap2 cap3:Nat) (ps:List Pa) (bo:Sts) (hp:PaL w0 ao1 cap1 ps)
 (hpt:∀p∈ps,p.type=0∨p.type=1∨p.type=2∨p.type=3) (hpn:∀p∈ps,p.name.length≤1000000) (h8:ps.length≤8) (hB:BlkW bo 1) (hbo:StL w0 ao3 cap3 bo)
 (hT:Hidden (acc++([101,120,112,111,114,116,32]++[102,110,32]++name++[40]++paT ps++[41]++tyT ty++[32,123,10])++stT txS bo 1++[125,10]=T)) (hl:T.length≤140737488355328) :
 Calls Tryz.prog 38 #[bp b,.agg #[ci 3,.bool true,ct name,ci ty,.slice ao1 ps.length cap1,.slice ao2 n2 cap2,.slice ao3 bo.len cap3]] w fun e w'=>e = .returned (.tuple #[])∧PW w0 B b T w':=by
 have f0:=Fr.alloc (fun _=>False) w (deO 3 true name ty (.slice ao1 ps.length cap1) (.slice ao2 n2 cap2) (.slice ao3 bo.len cap3))
 have hbx:Hidden ((w.alloc (deO 3 true name ty (.slice ao1 ps.length cap1) (.slice ao2 n2 cap2) (.slice ao3 bo.len cap3))).heap[w.heap.size]?=some (deO 3 true name ty (.slice ao1 ps.length cap1) (.slice ao2 n2 cap2) (.slice ao3 bo.len cap3))):=alloc_new _ _
 have g0:=hw.fr.same f0
 have hne:=ne_pbld hw.bld
 have hlen:(paT ps).length≤140737488355328:=by
  have:=congrArg List.length (show _=T from hT)
  simp only [List.length_append] at this
  omega
 have m3:cap3≤9223372036854775807:=by have:=hbo.2.1;unfold maxLen at this;omega
 have m3':=hbo.1
 have m1:cap1≤9223372036854775807:=by have:=hp.2.1;unfold maxLen at this;omega
 have m1':=hp.1
 have kp:=fun (w1:World) (f1:Fr (fun _=>False) (w.alloc (deO 3 true name ty (.slice ao1 ps.length cap1) (.slice ao2 n2 cap2) (.slice ao3 bo.len cap3))) w1)=>params_w ps ao1 cap1 w1 (hp.keep (g0.same f1)) hpt hpn h8 (paT ps) (show Hidden (paT ps=paT ps) from rfl) hlen
 generalize paT ps=E at kp hT hlen
 have kt:=fun (w1:World)=>type_is ty hty w1
 generalize hty9:tyT ty=Y at kt hT
 obtain ⟨T1,hT1'⟩:∃T1,acc++[[101,120,112,111,114,116,32],[102,110,32],name,[40],E,[41],Y,[32,123]].flatten++[10]=T1:=⟨_,rfl⟩
 have rT1:Hidden (T1++(stT txS bo 1++[125,10])=T):=by
  show _=T
  rw [←(show _=T from hT),←hT1']
  simp
 have hT1:Hidden (acc++[[101,120,112,111,114,116,32],[102,110,32],name,[40],E,[41],Y,[32,123]].flatten++[10]=T1):=hT1'
 obtain ⟨T2,hT2'⟩:∃T2,T1++stT txS bo 1=T2:=⟨_,rfl⟩
 have rT2:Hidden (T2++[125,10]=T):=by
  show _=T
  rw [←(show _=T from rT1),←hT2']
  simp
 have hT2:Hidden (T1++stT txS bo 1=T2):=hT2'
 have lT1:=app_le (show _=T from rT1) hl
 have lT2:=app_le (show _=T from rT2) hl
 have kl:=fun (w1:World) (f1:Fr (fun _=>False) (w.alloc (deO 3 true name ty (.slice ao1 ps.length cap1) (.slice ao2 n2 cap2) (.slice ao3 bo.len cap3))) w1)=>line_zero [[101,120,112,111,114,116,32],[102,110,32],name,[40],E,[41],Y,[32,123]] acc T1 w0 w1 B b (hw.quiet (f0.same f1)) (by simp) hT1 lT1
 have hd0:Fr (fun _=>False) (w.alloc (deO 3 true name ty (.slice ao1 ps.length cap1) (.slice ao2 n2 cap2) (.slice ao3 bo.len cap3))) (w.alloc (deO 3 true name ty (.slice ao1 ps.length cap1) (.slice ao2 n2 cap2) (.slice ao3 bo.len cap3))).drew:=Fr.drew _ _
 obtain ⟨c0,c1,c2,c3,c4,c5,c6⟩:=ex_box hbx
 clear hT hty9 hT1' hT2'
 go_enter Tryz.func38,Tryz.ntmps38
 go_wp2_with fail
 go_region_held3 (fun w'=>w'.cell? ⟨w.heap.size,2,none⟩=some (ct name)∧w'.cell? ⟨w.heap.size,3,none⟩=some (ci ty)∧w'.cell? ⟨w.heap.size,4,none⟩=some (.slice ao1 ps.length cap1)) (first | (refine ⟨by assumption,by assumption,by assumption⟩) | go_keep) (first
  | (go_at_call 80;refine (kt _).mono ?_;rintro e wt ⟨rfl,hwt⟩;have hwt:=hwt.symm;subst hwt)
  | (go_at_call 81;refine (kp _ hd0).mono ?_;rintro e wa ⟨rfl,fa⟩;have ga:=hd0.same fa;have q2:=ga.cellN c2;have q3:=ga.cellN c3;have q4:=ga.cellN c4)
  | (go_at_call 37;refine (kl wa (hd0.same fa)).mono ?_;rintro e wz ⟨rfl,p2,g2⟩;obtain ⟨e0',e1',e2',e3',e4',e5',e6'⟩:=ex_box (bs_keep g2 ((hd0.same fa).heap hbx (fun f=>f)) hne (by decide))))
 all_goals
  have kb:=hB 1 rfl ao3 cap3 w0 wz B b T1 T2 hbo ht p2 hT2 lT2
  go_wp2_with fail
  go_at_call 82
  refine kb.mono ?_
  rintro e w3 ⟨rfl,p3,g3⟩
  have kz:=line_zero [[125]] T2 T w0 w3 B b p3 (by simp) (by rw [←(show _=T from rT2)];simp) hl
  go_wp2_with fail
  go_at_call 37
  refine kz.mono ?_
  rintro e w4 ⟨rfl,p4,g4⟩
  go_wp2_with fail
  go_end0
  exact ⟨rfl,p4⟩
theorem decl_3f (name:Bs) (ty:Int) (hty:ty=0∨ty=1∨ty=2∨ty=3) (acc T:Bs) (w0 w:World) (B b:Nat) (ht:F.Tab w0) (hw:PW w0 B b acc w) (ao1 ao2 ao3:Option Addr) (n2 cap1 cap2 cap3:Nat) (ps:List Pa) (bo:Sts) (hp:PaL w0 ao1 cap1 ps)
 (hpt:∀p∈ps,p.type=0∨p.type=1∨p.type=2∨p.type=3) (hpn:∀p∈ps,p.name.length≤1000000) (h8:ps.length≤8) (hB:BlkW bo 1) (hbo:StL w0 ao3 cap3 bo)
 (hT:Hidden (acc++([]++[102,110,32]++name++[40]++paT ps++[41]++tyT ty++[32,123,10])++stT txS bo 1++[125,10]=T)) (hl:T.length≤140737488355328) :
 Calls Tryz.prog 38 #[bp b,.agg #[ci 3,.bool false,ct name,ci ty,.slice ao1 ps.length cap1,.slice ao2 n2 cap2,.slice ao3 bo.len cap3]] w fun e w'=>e = .returned (.tuple #[])∧PW w0 B b T w':=by
 have f0:=Fr.alloc (fun _=>False) w (deO 3 false name ty (.slice ao1 ps.length cap1) (.slice ao2 n2 cap2) (.slice ao3 bo.len cap3))
 have hbx:Hidden ((w.alloc (deO 3 false name ty (.slice ao1 ps.length cap1) (.slice ao2 n2 cap2) (.slice ao3 bo.len cap3))).heap[w.heap.size]?=some (deO 3 false name ty (.slice ao1 ps.length cap1) (.slice ao2 n2 cap2) (.slice ao3 bo.len cap3))):=alloc_new _ _
 have g0:=hw.fr.same f0
 have hne:=ne_pbld hw.bld
 have hlen:(paT ps).length≤140737488355328:=by
  have:=congrArg List.length (show _=T from hT)
  simp only [List.length_append] at this
  omega
 have m3:cap3≤9223372036854775807:=by have:=hbo.2.1;unfold maxLen at this;omega
 have m3':=hbo.1
 have m1:cap1≤9223372036854775807:=by have:=hp.2.1;unfold maxLen at this;omega
 have m1':=hp.1
 have kp:=fun (w1:World) (f1:Fr (fun _=>False) (w.alloc (deO 3 false name ty (.slice ao1 ps.length cap1) (.slice ao2 n2 cap2) (.slice ao3 bo.len cap3))) w1)=>params_w ps ao1 cap1 w1 (hp.keep (g0.same f1)) hpt hpn h8 (paT ps) (show Hidden (paT ps=paT ps) from rfl) hlen
 generalize paT ps=E at kp hT hlen
 have kt:=fun (w1:World)=>type_is ty hty w1
 generalize hty9:tyT ty=Y at kt hT
 obtain ⟨T1,hT1'⟩:∃T1,acc++[[],[102,110,32],name,[40],E,[41],Y,[32,123]].flatten++[10]=T1:=⟨_,rfl⟩
 have rT1:Hidden (T1++(stT txS bo 1++[125,10])=T):=by
  show _=T
  rw [←(show _=T from hT),←hT1']
  simp
 have hT1:Hidden (acc++[[],[102,110,32],name,[40],E,[41],Y,[32,123]].flatten++[10]=T1):=hT1'
 obtain ⟨T2,hT2'⟩:∃T2,T1++stT txS bo 1=T2:=⟨_,rfl⟩
 have rT2:Hidden (T2++[125,10]=T):=by
  show _=T
  rw [←(show _=T from rT1),←hT2']
  simp
 have hT2:Hidden (T1++stT txS bo 1=T2):=hT2'
 have lT1:=app_le (show _=T from rT1) hl
 have lT2:=app_le (show _=T from rT2) hl
 have kl:=fun (w1:World) (f1:Fr (fun _=>False) (w.alloc (deO 3 false name ty (.slice ao1 ps.length cap1) (.slice ao2 n2 cap2) (.slice ao3 bo.len cap3))) w1)=>line_zero [[],[102,110,32],name,[40],E,[41],Y,[32,123]] acc T1 w0 w1 B b (hw.quiet (f0.same f1)) (by simp) hT1 lT1
 have hd0:Fr (fun _=>False) (w.alloc (deO 3 false name ty (.slice ao1 ps.length cap1) (.slice ao2 n2 cap2) (.slice ao3 bo.len cap3))) (w.alloc (deO 3 false name ty (.slice ao1 ps.length cap1) (.slice ao2 n2 cap2) (.slice ao3 bo.len cap3))).drew:=Fr.drew _ _
 obtain ⟨c0,c1,c2,c3,c4,c5,c6⟩:=ex_box hbx
 clear hT hty9 hT1' hT2'
 go_enter Tryz.func38,Tryz.ntmps38
 go_wp2_with fail
 go_region_held3 (fun w'=>w'.cell? ⟨w.heap.size,2,none⟩=some (ct name)∧w'.cell? ⟨w.heap.size,3,none⟩=some (ci ty)∧w'.cell? ⟨w.heap.size,4,none⟩=some (.slice ao1 ps.length cap1)) (first | (refine ⟨by assumption,by assumption,by assumption⟩) | go_keep) (first
  | (go_at_call 80;refine (kt _).mono ?_;rintro e wt ⟨rfl,hwt⟩;have hwt:=hwt.symm;subst hwt)
  | (go_at_call 81;refine (kp _ hd0).mono ?_;rintro e wa ⟨rfl,fa⟩;have ga:=hd0.same fa;have q2:=ga.cellN c2;have q3:=ga.cellN c3;have q4:=ga.cellN c4)
  | (go_at_call 37;refine (kl wa (hd0.same fa)).mono ?_;rintro e wz ⟨rfl,p2,g2⟩;obtain ⟨e0',e1',e2',e3',e4',e5',e6'⟩:=ex_box (bs_keep g2 ((hd0.same fa).heap hbx (fun f=>f)) hne (by decide))))
 all_goals
  have kb:=hB 1 rfl ao3 cap3 w0 wz B b T1 T2 hbo ht p2 hT2 lT2
  go_wp2_with fail
  go_at_call 82
  refine kb.mono ?_
  rintro e w3 ⟨rfl,p3,g3⟩
  have kz:=line_zero [[125]] T2 T w0 w3 B b p3 (by simp) (by rw [←(show _=T from rT2)];simp) hl
  go_wp2_with fail
  go_at_call 37
  refine kz.mono ?_
  rintro e w4 ⟨rfl,p4,g4⟩
  go_wp2_with fail
  go_end0
  exact ⟨rfl,p4⟩
theorem isTy_c {t:Int} (h:isTy t=true):t=0∨t=1∨t=2∨t=3:=by
 simp only [isTy,Bool.or_eq_true,beq_iff_eq] at h
 omega
theorem rn_len {x:Bs} (h:rnS x=0):x.length≤32:=by
 unfold rnS N.rightS at h
 split at h
 ·split at h
  ·exact absurd h (by decide)
  ·omega
 ·exact absurd h (by decide)
theorem decl_w (d:De) (he:errD rnS cnS d=0) (hO:OkD d):DeclW d:=by
 intro pv ev bv w0 w B b acc T hd ht hw hT hl
 obtain ⟨ao1,cap1,ao2,cap2,ao3,cap3,rfl,rfl,rfl,hp,hx,hb⟩:=hd
 unfold errD at he
 obtain ⟨a1,a2⟩:=Pz.orE_0 he
 obtain ⟨a3,a4⟩:=Pz.orE_0 a2
 obtain ⟨a5,a6⟩:=Pz.orE_0 a4
 obtain ⟨a7,a8⟩:=Pz.orE_0 a6
 obtain ⟨a9,b1⟩:=Pz.orE_0 a8
 obtain ⟨b2,b3⟩:=Pz.orE_0 b1
 have hdd:dD d≤32:=by
  apply Classical.byContradiction
  intro hc
  rw [if_pos (by omega)] at a1
  exact absurd a1 (by decide)
 have hfit:=Pz.ifx (c:=fitsD d=true) a3 (by decide)
 have h8:d.params.length≤8:=by
  apply Classical.byContradiction
  intro hc
  rw [if_pos (by omega)] at a7
  exact absurd a7 (by decide)
 have hT:acc++deT txS d=T:=hT
 obtain ⟨k,ex,name,ty,ps,e,bo⟩:=d
 obtain ⟨o1,o2,o3,o4,o5,o6⟩:=hO
 simp only at *
 unfold fitsD at hfit
 simp only at hfit
 by_cases k1:k=1
 ·subst k1
  rw [if_pos rfl,Bool.and_eq_true,decide_eq_true_eq] at hfit
  obtain ⟨x,kx,b0,off,aok,capk,rfl,rfl,q1,q2,q3,q4,hk,c0,c1,c2,c3,c4,c5,c6⟩:=one_ex hx o5 b2 hfit.2.1
  cases ex
  ·exact decl_1f name ty (isTy_c hfit.1) acc T w0 w B b ht hw ao1 ao3 ps.length bo.len cap1 cap3 x kx b0 off cap2 aok capk q1 q2 q3 q4 hk c0 c1 c2 c3 c4 c5 c6 (by show _=T;rw [←hT];simp [deT,exT,txF,txA_one]) hl
  ·exact decl_1t name ty (isTy_c hfit.1) acc T w0 w B b ht hw ao1 ao3 ps.length bo.len cap1 cap3 x kx b0 off cap2 aok capk q1 q2 q3 q4 hk c0 c1 c2 c3 c4 c5 c6 (by show _=T;rw [←hT];simp [deT,exT,txF,txA_one]) hl
 rw [if_neg k1] at hfit
 by_cases k2:k=2
 ·subst k2
  rw [if_pos rfl,Bool.and_eq_true,Bool.and_eq_true,decide_eq_true_eq] at hfit
  obtain ⟨x,kx,b0,off,aok,capk,rfl,rfl,q1,q2,q3,q4,hk,c0,c1,c2,c3,c4,c5,c6⟩:=one_ex hx o5 b2 hfit.2.1
  obtain rfl:ex=false:=by simpa using hfit.1.1
  exact decl_2f name ty (isTy_c hfit.1.2) acc T w0 w B b ht hw ao1 ao3 ps.length bo.len cap1 cap3 x kx b0 off cap2 aok capk q1 q2 q3 q4 hk c0 c1 c2 c3 c4 c5 c6 (by show _=T;rw [←hT];simp [deT,exT,txF,txA_one]) hl
 rw [if_neg k2] at hfit
 by_cases k3:k=3
 ·subst k3
  rw [if_pos rfl,Bool.and_eq_true,decide_eq_true_eq] at hfit
  have hty:ty=0∨ty=1∨ty=2∨ty=3:=by
   have:=hfit.1
   rw [Bool.or_eq_true] at this
   rcases this with h | h
   ·exact Or.inl (by simpa using h)
   ·exact isTy_c h
  have hB:BlkW bo 1:=blk_any bo 1 1 (by decide) b3 o6 (by have:=(Pz.dD_of hdd).2 rfl;simpa using this)
  have hpa:∀p∈ps,rnS p.name=0∧isTy p.type=true:=Pz.errP_of ps a9
  cases ex
  ·exact decl_3f name ty hty acc T w0 w B b ht hw ao1 ao2 ao3 e.len cap1 cap2 cap3 ps bo hp (fun p hp=>isTy_c (hpa p hp).2) (fun p hp=>by have:=rn_len (hpa p hp).1;omega) h8 hB hb (by show _=T;rw [←hT];simp [deT,exT,txF,txA_one]) hl
  ·exact decl_3t name ty hty acc T w0 w B b ht hw ao1 ao2 ao3 e.len cap1 cap2 cap3 ps bo hp (fun p hp=>isTy_c (hpa p hp).2) (fun p hp=>by have:=rn_len (hpa p hp).1;omega) h8 hB hb (by show _=T;rw [←hT];simp [deT,exT,txF,txA_one]) hl
 rw [if_neg k3] at hfit
 cases hfit
end Go.Proofs.YteijjaabngkbjaaGreatDoor
namespace Go.Proofs.YteijjaabngkbjaaGreatDoor.F
open Fl
theorem hexdig_hx (d:Nat) (h:d<16):Lx.hxB (hexdig d)=true:=by
 have:d=0∨d=1∨d=2∨d=3∨d=4∨d=5∨d=6∨d=7∨d=8∨d=9∨d=10∨d=11∨d=12∨d=13∨d=14∨d=15:=by omega
 rcases this with rfl | rfl | rfl | rfl | rfl | rfl | rfl | rfl | rfl | rfl | rfl | rfl | rfl | rfl | rfl | rfl<;>decide
theorem hexF_hx (k:Nat):∀f,f<4503599627370496→∀x∈hexF k f,Lx.hxB x=true:=by
 induction k with
 | zero=>intro f _ x hx;simp [hexF] at hx
 | succ k ih =>
   intro f hf x hx
   unfold hexF at hx
   split at hx
   ·simp at hx
   ·rcases List.mem_cons.1 hx with rfl | hx
    ·exact hexdig_hx _ (by omega)
    ·exact ih _ (by omega) x hx
theorem fracL_hx (F:Nat) (hF:F<4503599627370496):∀x∈fracL F,Lx.hxB x=true:=by
 intro x hx
 unfold fracL at hx
 split at hx
 ·simp at hx
 ·rcases List.mem_cons.1 hx with rfl | hx
  ·decide
  ·exact hexF_hx 13 F hF x hx
theorem dec_dgt (n:Nat):∀x∈Lib.decDigits n,Lx.dgt x=true:=by
 have h:=(D.dec_facts n).1
 rw [List.all_eq_true] at h
 exact h
theorem dgt_hx {x:UInt8} (h:Lx.dgt x=true):Lx.hxB x=true:=by simp [Lx.hxB,h]
theorem expL_hx (e:Int):∀x∈expL e,Lx.hxB x=true:=by
 intro x hx
 unfold expL at hx
 split at hx
 ·rcases List.mem_cons.1 hx with rfl | hx
  ·decide
  ·exact dgt_hx (dec_dgt _ x hx)
 ·rcases List.mem_cons.1 hx with rfl | hx
  ·decide
  ·exact dgt_hx (dec_dgt _ x hx)
theorem text_hex (a:Int) (h0:0≤a) (h1:a<9223372036854775808) (hc:canonS a=a) (n1:a≠9218868437227405312) (n2:a≠9221120237041090561):∃z,textS a=48::120::z∧∀c∈z,Lx.hxB c=true:=by
 have hp:partN a=false:=by
  unfold partN
  split
  ·rfl
  ·exact decide_eq_false (by omega)
 have hn:nan a=false:=by
  cases h:nan a
  ·rfl
  ·simp [canonS,h] at hc;exact absurd hc.symm n2
 have ht:textS a=sizeL (classS a) (partM a).toNat (partE a):=by simp [textS,hp]
 have hm:a % 9223372036854775808=a:=by omega
 rw [ht]
 rcases class_cases a with e | e | e | e | e
 ·have:=(class_nan a).1 e;rw [hn] at this;cases this
 ·exfalso
  unfold classS at e
  rw [hm] at e
  revert e
  repeat' split
  all_goals omega
 ·rw [e]
  exact ⟨[48,112,43,48],rfl,by decide⟩
 all_goals
  have hg:classS a=4∨classS a=5:=by omega
  rw [sizeL_great a hg]
  refine ⟨49::(fracL (nrm (partM a).toNat % 4503599627370496)++112::expL (partE a - shf (partM a).toNat+52)),rfl,?_⟩
  intro c hc
  rcases List.mem_cons.1 hc with rfl | hc
  ·decide
  ·rcases List.mem_append.1 hc with hc | hc
   ·exact fracL_hx _ (Nat.mod_lt _ (by decide)) c hc
   ·rcases List.mem_cons.1 hc with rfl | hc
    ·decide
    ·exact expL_hx _ c hc
end Go.Proofs.YteijjaabngkbjaaGreatDoor.F
namespace Go.Proofs.YteijjaabngkbjaaGreatDoor
open Go.RowKit Lx Te
theorem dec_0:Go.Lib.decDigits 0=[48]:=by unfold Go.Lib.decDigits;simp
theorem nat_dec (v:Int) (h0:0≤v) (h1:v≤9223372036854775807):I.natS (Go.Lib.itoa v)=(v,0,0):=by
 obtain ⟨a1,a2,a3,a4⟩:=D.dec_facts v.toNat
 have e:Go.Lib.itoa v=Go.Lib.decDigits v.toNat:=by unfold Go.Lib.itoa;rw [if_neg (by omega)]
 rw [e]
 have hr:I.runD (Go.Lib.decDigits v.toNat)=(Go.Lib.decDigits v.toNat).length:=(I.runD_all _).2 a1
 have hv:I.numD (Go.Lib.decDigits v.toNat)=v.toNat:=a2
 unfold I.natS I.amtS
 rw [if_neg (by omega),if_neg (by omega),if_neg,if_neg (by omega),hv]
 ·simp;omega
 ·rintro ⟨g1,g2⟩
  by_cases g:1≤v.toNat
  ·obtain ⟨c,r,e1,e2,_⟩:=a4 g
   rw [e1] at g2
   simp at g2
   exact e2 g2
  ·have:v.toNat=0:=by omega
   rw [this,dec_0] at g1
   exact absurd g1 (by decide)
theorem noughts_dec (n:Nat):noughts (Go.Lib.decDigits n)=Go.Lib.decDigits n:=by
 obtain ⟨_,_,_,a4⟩:=D.dec_facts n
 by_cases g:1≤n
 ·obtain ⟨c,r,e1,e2,_⟩:=a4 g
  rw [e1]
  cases r with
  | nil=>rfl
  | cons d r=>rw [noughts,if_neg e2]
 ·have:n=0:=by omega
  subst this
  rw [dec_0]
  rfl
theorem rn_nm (x:Bs) (h:rnS x=0):(∃c r,x=c::r∧ltr c=true)∧(∀c∈x,nmB c=true)∧x ∉ wordsL∧valS 1 x=(0,0,0):=by
 unfold rnS N.rightS at h
 split at h
 ·rename_i hs
  split at h
  ·cases h
  ·rename_i hl
   split at h
   ·cases h
   ·rename_i hw
    cases x with
    | nil=>simp [N.speltS] at hs
    | cons c r =>
      rw [N.spelt_cons (c::r) c rfl,Bool.and_eq_true] at hs
      have hc:ltr c=true:=by
       have:=hs.1
       simp only [N.letB,ltr,Bool.or_eq_true,Bool.and_eq_true,decide_eq_true_eq,beq_iff_eq] at this ⊢
       exact this
      refine ⟨⟨c,r,rfl,hc⟩,?_,hw,?_⟩
      ·intro d hd
       have:=(List.all_eq_true.1 hs.2) d hd
       simp only [N.ld,N.letB,N.digB,nmB,dgt,ltr,Bool.or_eq_true,Bool.and_eq_true,decide_eq_true_eq,beq_iff_eq] at this ⊢
       exact this.symm
      ·unfold valS
       rw [if_pos rfl,if_neg hl]
 ·cases h
theorem tx_int (vb:Int) (h0:0≤vb):txS 1 vb=Go.Lib.decDigits vb.toNat:=by
 unfold txS
 rw [if_pos rfl]
 unfold Go.Lib.itoa
 rw [if_neg (by omega)]
theorem tx_flo (vb:Int):txS 2 vb=F.textS vb:=by
 unfold txS
 rw [if_neg (by decide),if_pos rfl]
theorem lawI (vb:Int) (h0:0≤vb):∃c r,txS 1 vb=c::r∧dgt c=true:=by
 rw [tx_int vb h0]
 have h:=F.dec_dgt vb.toNat
 have h3:=(D.dec_facts vb.toNat).2.2.1
 cases e:Go.Lib.decDigits vb.toNat with
 | nil=>rw [e] at h3;simp at h3
 | cons c r=>exact ⟨c,r,rfl,h c (by rw [e];simp)⟩
theorem lawT:Pz.LawT rnS cnS txS wordsL valS where
 nm:=rn_nm
 wd:=fun x=>rfl
 mrk:=fun x=>rfl
 int:=fun vb h0 h1=>by
  have h3:=(D.dec_facts vb.toNat).2.2.1
  refine ⟨?_,?_,?_⟩
  ·rw [tx_int vb h0];intro e;rw [e] at h3;simp at h3
  ·rw [tx_int vb h0];exact F.dec_dgt _
  ·have hn:=nat_dec vb h0 (by omega)
   have e:Go.Lib.itoa vb=Go.Lib.decDigits vb.toNat:=by unfold Go.Lib.itoa;rw [if_neg (by omega)]
   rw [e] at hn
   rw [tx_int vb h0]
   unfold valS
   rw [if_neg (by decide),if_pos rfl,noughts_dec,hn]
   rfl
 flo:=fun vb h0 hl n1 n2=>by
  simp only [litOk] at hl
  rw [if_neg (by decide),if_pos trivial] at hl
  simp only [Bool.and_eq_true,decide_eq_true_eq] at hl
  obtain ⟨z,e,hz⟩:=F.text_hex vb h0 hl.1 hl.2 n1 n2
  have hp:=F.parse_text vb ⟨h0,by omega⟩
  refine ⟨z,by rw [tx_flo,e],hz,?_⟩
  rw [tx_flo]
  unfold valS
  rw [if_neg (by decide),if_neg (by decide),if_pos rfl,if_pos (by rw [e];rfl),hp,if_pos rfl]
  simp only [Prod.mk.injEq,true_and,and_true]
  exact hl.2
 inf:=by rw [tx_flo];decide +kernel
 nan:=by rw [tx_flo];decide +kernel
 fal:=rfl
 tru:=rfl
 wi:=by decide
 wn:=by decide
 wf:=by decide
 wt:=by decide
 wI:=by decide
 wF:=by decide
 wp:=by decide
end Go.Proofs.YteijjaabngkbjaaGreatDoor
namespace Go.Proofs.YteijjaabngkbjaaGreatDoor.In
open Go.RowKit Te Go.WideShapes Go.ChangeShapes Go.ChangeAt Go.Deep
theorem cells_int:Tryz.prog.cellsOf 3=1:=by kernel_rfl
theorem cells_bool:Tryz.prog.cellsOf 4=1:=by kernel_rfl
theorem cells_str:Tryz.prog.cellsOf 9=1:=by kernel_rfl
theorem cells_val:Tryz.prog.cellsOf 40=2:=by kernel_rfl
theorem cells_u64:Tryz.prog.cellsOf 38=1:=by kernel_rfl
theorem cells_ex:Tryz.prog.cellsOf 59=7:=by kernel_rfl
theorem cells_exs:Tryz.prog.cellsOf 48=1:=by kernel_rfl
theorem cells_st:Tryz.prog.cellsOf 91=5:=by kernel_rfl
theorem cells_sts:Tryz.prog.cellsOf 49=1:=by kernel_rfl
theorem cells_pa:Tryz.prog.cellsOf 89=2:=by kernel_rfl
theorem cells_pas:Tryz.prog.cellsOf 47=1:=by kernel_rfl
theorem cells_de:Tryz.prog.cellsOf 51=7:=by kernel_rfl
theorem cells_des:Tryz.prog.cellsOf 23=1:=by kernel_rfl
theorem cells_strs:Tryz.prog.cellsOf 22=1:=by kernel_rfl
theorem cells_mo:Tryz.prog.cellsOf 25=3:=by kernel_rfl
theorem Addr_plain {W:World} {a:Addr} {x:Value} (h:W.cell? (a.add 0)=some x):a.spot=none:=by
 have:=World.cell?_spot h
 unfold Addr.add at this
 simpa using this
theorem wf_i64 {n:Int} (h:(Lit.int .i64 n).wf=true):I64 n:=by
 have:-9223372036854775808≤n∧n≤9223372036854775807:=by simpa [Lit.wf,IntKind.min,IntKind.max,IntKind.signed,IntKind.bits] using h
 exact this
theorem wf_u64 {n:Int} (h:(Lit.int .u64 n).wf=true):0≤n∧n<18446744073709551616:=by
 have:0≤n∧n≤18446744073709551615:=by simpa [Lit.wf,IntKind.min,IntKind.max,IntKind.signed,IntKind.bits] using h
 omega
def bkX:Exs→Nat
 | .nil=>1
 | .cons h k r=>h.mod.length+h.name.length+bkX k+bkX r
def bkS:Sts→Nat
 | .nil=>1
 | .cons h e b l r=>h.name.length+bkX e+bkS b+bkS l+bkS r
variable {H:Type} {enc:TypeId × Value→H} {W:World}
abbrev bulk (x:DataW H × List MemPlace):Nat:=Rows.uptoBulk x.1
theorem bulk_pos (x:DataW H × List MemPlace):1≤bulk x:=by
 unfold bulk
 cases x.1 with
 | lit l=>cases l<;>simp [Rows.uptoBulk]
 | _=>simp [Rows.uptoBulk]
theorem open_sl {t e:TypeId} {fuel:Nat} {c:Value} {x:DataW H × List MemPlace} (ht:Tryz.prog.underlying t=some (.slice e)) (h:DataW.trod enc Tryz.prog W 0 (fun _=>true) true fuel t [c]=some x) :
 c = .slice none 0 0∨∃(a:Addr) (len cap n:Nat) (el rest:List (DataW H × List MemPlace)),fuel=n+1∧c = .slice (some a) len cap∧len≤cap∧cap≤maxLen∧x.1 = .slice (el.map (·.1)) (rest.map (·.1))∧el.length=len ∧
   ∀i,i<len→∃y cs,el[i]?=some y∧W.cells? 0 (a.add (i*Tryz.prog.cellsOf e)) (Tryz.prog.cellsOf e)=some cs∧DataW.trod enc Tryz.prog W 0 (fun _=>true) true n e cs=some y:=by
 rcases DataW.trod_slice ht h with ⟨h0,_⟩ | ⟨a,len,cap,el,rest,n,hn,hcs,rfl,hb,hl,hm,hlen,hel,_,_⟩
 ·simp only [List.cons.injEq,and_true] at h0
  exact Or.inl h0
 ·simp only [List.cons.injEq,and_true] at hcs
  refine Or.inr ⟨a,len,cap,n,el,rest,hn,hcs,hl,hm,rfl,hlen,fun i hi=>?_⟩
  have key:=hel i hi
  rw [List.getElem?_eq_getElem (by omega)] at key
  obtain ⟨cs,h1,h2⟩:=Option.bind_eq_some_iff.1 key
  exact ⟨_,cs,List.getElem?_eq_getElem (by omega),h1,h2⟩
theorem bulk_drop (el:List (DataW H × List MemPlace)) (i:Nat) (y:DataW H × List MemPlace) (h:el[i]?=some y):Rows.uptoBulkAll ((el.drop i).map (·.1))=bulk y+Rows.uptoBulkAll ((el.drop (i+1)).map (·.1)):=by
 have hi:i<el.length:=(List.getElem?_eq_some_iff.1 h).1
 have e:el.drop i=y::el.drop (i+1):=by
  rw [List.drop_eq_getElem_cons hi]
  congr 1
  rw [List.getElem?_eq_getElem hi] at h
  exact Option.some.inj h
 rw [e]
 simp only [List.map_cons,Rows.uptoBulkAll]
theorem val_in {fuel:Nat} {c0 c1:Value} {x:DataW H × List MemPlace} (h:DataW.trod enc Tryz.prog W 0 (fun _=>true) true fuel 40 [c0,c1]=some x):∃t b:Int,c0 = .int .i64 t∧c1 = .int .u64 b∧I64 t∧0≤b∧b<18446744073709551616:=by
 obtain ⟨xs,n,rfl,rfl,hlen,hxl,hf⟩:=DataW.trod_struct Tryz.underlying40 h
 have hxl:xs.length=2:=hxl
 match xs,hxl with
 | [x0,x1],_ =>
   have f0:DataW.trod enc Tryz.prog W 0 (fun _=>true) true n 3 [c0]=some x0:=by
    have:DataW.trod enc Tryz.prog W 0 (fun _=>true) true n 3 (([c0,c1].drop 0).take (Tryz.prog.cellsOf 3))=some x0:=hf 0 _ rfl
    rw [cells_int] at this
    exact this
   have f1:DataW.trod enc Tryz.prog W 0 (fun _=>true) true n 38 [c1]=some x1:=by
    have:DataW.trod enc Tryz.prog W 0 (fun _=>true) true n 38 (([c0,c1].drop 1).take (Tryz.prog.cellsOf 38))=some x1:=hf 1 _ rfl
    rw [cells_u64] at this
    exact this
   obtain ⟨t,e0,rfl,w0⟩:=DataW.trod_int Tryz.underlying3 f0
   obtain ⟨b,e1,rfl,w1⟩:=DataW.trod_int Tryz.underlying38 f1
   exact ⟨t,b,by simpa using e0,by simpa using e1,wf_i64 w0,wf_u64 w1⟩
theorem str_ok {s:ByteArray} (h:s.size≤maxLen):OkN s.data.toList:=by
 have:s.data.toList.length≤maxLen:=by rw [Array.length_toList];exact h
 unfold maxLen at this
 unfold OkN
 omega
def ExsIn (enc:TypeId × Value→H) (W:World) (fuel:Nat):Prop:=∀(c:Value) (x:DataW H × List MemPlace),DataW.trod enc Tryz.prog W 0 (fun _=>true) true fuel 48 [c]=some x →
 ∃(ao:Option Addr) (cap:Nat) (k:Exs),c = .slice ao k.len cap∧ExL W ao cap k∧OkX k∧bkX k≤bulk x
theorem expr_in {fuel:Nat} (ih:∀n,n<fuel→ExsIn enc W n) {cs:List Value} {x:DataW H × List MemPlace} (h:DataW.trod enc Tryz.prog W 0 (fun _=>true) true fuel 59 cs=some x) :
 ∃(hh:EH) (ao:Option Addr) (cap:Nat) (k:Exs),cs=exC hh (.slice ao k.len cap)∧ExL W ao cap k∧OkE hh∧OkX k∧hh.mod.length+hh.name.length+bkX k≤bulk x:=by
 obtain ⟨xs,n,rfl,rfl,hlen,hxl,hf⟩:=DataW.trod_struct Tryz.underlying59 h
 rw [cells_ex] at hlen
 match cs,hlen with
 | [c0,c1,c2,c3,c4,c5,c6],_ =>
   have hxl:xs.length=6:=hxl
   match xs,hxl with
   | [x0,x1,x2,x3,x4,x5],_ =>
     have f0:DataW.trod enc Tryz.prog W 0 (fun _=>true) true n 3 [c0]=some x0:=by
      have:DataW.trod enc Tryz.prog W 0 (fun _=>true) true n 3 (([c0,c1,c2,c3,c4,c5,c6].drop 0).take (Tryz.prog.cellsOf 3))=some x0:=hf 0 _ rfl
      rw [cells_int] at this
      exact this
     have f1:DataW.trod enc Tryz.prog W 0 (fun _=>true) true n 3 [c1]=some x1:=by
      have:DataW.trod enc Tryz.prog W 0 (fun _=>true) true n 3 (([c0,c1,c2,c3,c4,c5,c6].drop 1).take (Tryz.prog.cellsOf 3))=some x1:=hf 1 _ rfl
      rw [cells_int] at this
      exact this
     have f2:DataW.trod enc Tryz.prog W 0 (fun _=>true) true n 9 [c2]=some x2:=by
      have:DataW.trod enc Tryz.prog W 0 (fun _=>true) true n 9 (([c0,c1,c2,c3,c4,c5,c6].drop 2).take (Tryz.prog.cellsOf 9))=some x2:=hf 2 _ rfl
      rw [cells_str] at this
      exact this
     have f3:DataW.trod enc Tryz.prog W 0 (fun _=>true) true n 9 [c3]=some x3:=by
      have:DataW.trod enc Tryz.prog W 0 (fun _=>true) true n 9 (([c0,c1,c2,c3,c4,c5,c6].drop 3).take (Tryz.prog.cellsOf 9))=some x3:=hf 3 _ rfl
      rw [cells_str] at this
      exact this
     have f4:DataW.trod enc Tryz.prog W 0 (fun _=>true) true n 40 [c4,c5]=some x4:=by
      have:DataW.trod enc Tryz.prog W 0 (fun _=>true) true n 40 (([c0,c1,c2,c3,c4,c5,c6].drop 4).take (Tryz.prog.cellsOf 40))=some x4:=hf 4 _ rfl
      rw [cells_val] at this
      exact this
     have f5:DataW.trod enc Tryz.prog W 0 (fun _=>true) true n 48 [c6]=some x5:=by
      have:DataW.trod enc Tryz.prog W 0 (fun _=>true) true n 48 (([c0,c1,c2,c3,c4,c5,c6].drop 6).take (Tryz.prog.cellsOf 48))=some x5:=hf 5 _ rfl
      rw [cells_exs] at this
      exact this
     obtain ⟨z0,e0,rfl,w0⟩:=DataW.trod_int Tryz.underlying3 f0
     obtain rfl:c0 = .int .i64 z0:=by simpa using e0
     obtain ⟨z1,e1,rfl,w1⟩:=DataW.trod_int Tryz.underlying3 f1
     obtain rfl:c1 = .int .i64 z1:=by simpa using e1
     obtain ⟨z2,e2,rfl,w2⟩:=DataW.trod_string Tryz.underlying9 f2
     obtain rfl:c2 = .string z2:=by simpa using e2
     have y2:OkN z2.data.toList:=str_ok w2
     obtain ⟨z3,e3,rfl,w3⟩:=DataW.trod_string Tryz.underlying9 f3
     obtain rfl:c3 = .string z3:=by simpa using e3
     have y3:OkN z3.data.toList:=str_ok w3
     obtain ⟨t4,b4,rfl,rfl,v41,v42,v43⟩:=val_in f4
     obtain ⟨ao,cap,k,rfl,hL,hO,hB⟩:=ih n (by omega) _ _ f5
     refine ⟨⟨z0,z1,z2.data.toList,z3.data.toList,t4,b4⟩,ao,cap,k,by simp [exC,ci,ct],hL,⟨wf_i64 w0,wf_i64 w1,v41,v42,v43,y2,y3⟩,hO,?_⟩
     simp only [bulk,Rows.uptoBulk,Rows.uptoBulkAll,List.map_cons,List.map_nil] at hB ⊢
     omega
theorem exs_step (fuel:Nat) (ih:∀n,n<fuel→ExsIn enc W n):ExsIn enc W fuel:=by
 intro c x h
 rcases open_sl Tryz.underlying48 h with rfl | ⟨a,len,cap,n,el,rest,hn,rfl,hl,hm,hx,hlen,hel⟩
 ·refine ⟨none,0,.nil,rfl,⟨by simp [Exs.len],by simp [maxLen],Or.inl rfl⟩,trivial,?_⟩
  have:1≤bulk x:=bulk_pos _
  simpa [bkX] using this
 ·rw [cells_ex] at hel
  have hpl:0<len→a.spot=none:=by
   intro h0
   obtain ⟨y,cs,_,hc,ht⟩:=hel 0 h0
   obtain ⟨hh,ao,cap',k,rfl,_⟩:=expr_in (fun m hm=>ih m (by omega)) ht
   obtain ⟨_,_,hcc⟩:=World.cells?_some hc
   have:=hcc 0 (by omega)
   rw [show a.add (0*7)=a by simp [Addr.add]] at this
   exact Addr_plain (this.trans rfl)
  have key:∀(m i:Nat),i+m=len→∃r:Exs,r.len=m∧ExA W r a.block (a.off+i*7)∧OkX r∧bkX r≤Rows.uptoBulkAll ((el.drop i).map (·.1))+1:=by
   intro m
   induction m with
   | zero=>intro i _;exact ⟨.nil,rfl,trivial,trivial,by simp [bkX]⟩
   | succ m ihm =>
     intro i hi
     obtain ⟨r,r1,r2,r3,r4⟩:=ihm (i+1) (by omega)
     obtain ⟨y,cs,hy,hc,ht⟩:=hel i (by omega)
     obtain ⟨hh,ao,cap',k,rfl,k1,k2,k3,k4⟩:=expr_in (fun m hm=>ih m (by omega)) ht
     obtain ⟨_,_,hcc⟩:=World.cells?_some hc
     have hsp:=hpl (by omega)
     refine ⟨.cons hh k r,by simp [Exs.len,r1],⟨⟨ao,cap',fun j u hu=>?_,k1.1,k1.2.1,k1.2.2⟩,?_⟩,⟨k2,k3,r3⟩,?_⟩
     ·have hj:j<7:=(List.getElem?_eq_some_iff.1 hu).1
      have:=hcc j hj
      rw [hu] at this
      obtain ⟨b,off,spot⟩:=a
      simp only at hsp
      subst hsp
      rw [Addr.add_lit,Addr.add_lit] at this
      exact this
     ·rw [show a.off+i*7+7=a.off+(i+1)*7 by omega]
      exact r2
     ·rw [bulk_drop el i y hy]
      simp only [bkX]
      omega
  obtain ⟨r,r1,r2,r3,r4⟩:=key len 0 (by omega)
  refine ⟨some a,cap,r,by rw [r1],⟨by rw [r1];exact hl,hm,?_⟩,r3,?_⟩
  ·by_cases h0:len=0
   ·left;rw [r1,h0]
   ·right
    have hsp:=hpl (by omega)
    obtain ⟨b,off,spot⟩:=a
    simp only at hsp
    subst hsp
    exact ⟨b,off,rfl,by simpa using r2⟩
  ·simp only [bulk,hx,Rows.uptoBulk]
   simp only [List.drop_zero] at r4
   omega
theorem exs_in (fuel:Nat):ExsIn enc W fuel:=by
 induction fuel using Nat.strongRecOn with
 | _ fuel ih=>exact exs_step fuel ih
def StsIn (enc:TypeId × Value→H) (W:World) (fuel:Nat):Prop:=∀(c:Value) (x:DataW H × List MemPlace),DataW.trod enc Tryz.prog W 0 (fun _=>true) true fuel 49 [c]=some x →
 ∃(ao:Option Addr) (cap:Nat) (k:Sts),c = .slice ao k.len cap∧StL W ao cap k∧OkS k∧bkS k≤bulk x
theorem stmt_in {fuel:Nat} (ih:∀n,n<fuel→StsIn enc W n) {cs:List Value} {x:DataW H × List MemPlace} (h:DataW.trod enc Tryz.prog W 0 (fun _=>true) true fuel 91 cs=some x) :
 ∃(hh:SH) (ao1:Option Addr) (cap1:Nat) (e:Exs) (ao2:Option Addr) (cap2:Nat) (b:Sts) (ao3:Option Addr) (cap3:Nat) (l:Sts),cs=stC hh (.slice ao1 e.len cap1) (.slice ao2 b.len cap2) (.slice ao3 l.len cap3)∧ExL W ao1 cap1 e∧StL W ao2 cap2 b∧StL W ao3 cap3 l ∧
  I64 hh.kind∧OkN hh.name∧OkX e∧OkS b∧OkS l∧hh.name.length+bkX e+bkS b+bkS l≤bulk x:=by
 obtain ⟨xs,n,rfl,rfl,hlen,hxl,hf⟩:=DataW.trod_struct Tryz.underlying91 h
 rw [cells_st] at hlen
 match cs,hlen with
 | [c0,c1,c2,c3,c4],_ =>
   have hxl:xs.length=5:=hxl
   match xs,hxl with
   | [x0,x1,x2,x3,x4],_ =>
     have f0:DataW.trod enc Tryz.prog W 0 (fun _=>true) true n 3 [c0]=some x0:=by
      have:DataW.trod enc Tryz.prog W 0 (fun _=>true) true n 3 (([c0,c1,c2,c3,c4].drop 0).take (Tryz.prog.cellsOf 3))=some x0:=hf 0 _ rfl
      rw [cells_int] at this
      exact this
     have f1:DataW.trod enc Tryz.prog W 0 (fun _=>true) true n 9 [c1]=some x1:=by
      have:DataW.trod enc Tryz.prog W 0 (fun _=>true) true n 9 (([c0,c1,c2,c3,c4].drop 1).take (Tryz.prog.cellsOf 9))=some x1:=hf 1 _ rfl
      rw [cells_str] at this
      exact this
     have f2:DataW.trod enc Tryz.prog W 0 (fun _=>true) true n 48 [c2]=some x2:=by
      have:DataW.trod enc Tryz.prog W 0 (fun _=>true) true n 48 (([c0,c1,c2,c3,c4].drop 2).take (Tryz.prog.cellsOf 48))=some x2:=hf 2 _ rfl
      rw [cells_exs] at this
      exact this
     have f3:DataW.trod enc Tryz.prog W 0 (fun _=>true) true n 49 [c3]=some x3:=by
      have:DataW.trod enc Tryz.prog W 0 (fun _=>true) true n 49 (([c0,c1,c2,c3,c4].drop 3).take (Tryz.prog.cellsOf 49))=some x3:=hf 3 _ rfl
      rw [cells_sts] at this
      exact this
     have f4:DataW.trod enc Tryz.prog W 0 (fun _=>true) true n 49 [c4]=some x4:=by
      have:DataW.trod enc Tryz.prog W 0 (fun _=>true) true n 49 (([c0,c1,c2,c3,c4].drop 4).take (Tryz.prog.cellsOf 49))=some x4:=hf 4 _ rfl
      rw [cells_sts] at this
      exact this
     obtain ⟨z0,e0,rfl,w0⟩:=DataW.trod_int Tryz.underlying3 f0
     obtain rfl:c0 = .int .i64 z0:=by simpa using e0
     obtain ⟨z1,e1,rfl,w1⟩:=DataW.trod_string Tryz.underlying9 f1
     obtain rfl:c1 = .string z1:=by simpa using e1
     have y1:OkN z1.data.toList:=str_ok w1
     obtain ⟨ao1,cap1,e,rfl,a1,a2,a3⟩:=exs_in n _ _ f2
     obtain ⟨ao2,cap2,b,rfl,b1,b2,b3⟩:=ih n (by omega) _ _ f3
     obtain ⟨ao3,cap3,l,rfl,l1,l2,l3⟩:=ih n (by omega) _ _ f4
     refine ⟨⟨z0,z1.data.toList⟩,ao1,cap1,e,ao2,cap2,b,ao3,cap3,l,by simp [stC,ci,ct],a1,b1,l1,wf_i64 w0,y1,a2,b2,l2,?_⟩
     simp only [bulk,Rows.uptoBulk,Rows.uptoBulkAll,List.map_cons,List.map_nil] at a3 b3 l3 ⊢
     omega
theorem sts_step (fuel:Nat) (ih:∀n,n<fuel→StsIn enc W n):StsIn enc W fuel:=by
 intro c x h
 rcases open_sl Tryz.underlying49 h with rfl | ⟨a,len,cap,n,el,rest,hn,rfl,hl,hm,hx,hlen,hel⟩
 ·refine ⟨none,0,.nil,rfl,⟨by simp [Sts.len],by simp [maxLen],Or.inl rfl⟩,trivial,?_⟩
  have:1≤bulk x:=bulk_pos _
  simpa [bkS] using this
 ·rw [cells_st] at hel
  have hpl:0<len→a.spot=none:=by
   intro h0
   obtain ⟨y,cs,_,hc,ht⟩:=hel 0 h0
   obtain ⟨hh,ao1,cap1,e,ao2,cap2,b,ao3,cap3,l,rfl,_⟩:=stmt_in (fun m hm=>ih m (by omega)) ht
   obtain ⟨_,_,hcc⟩:=World.cells?_some hc
   have:=hcc 0 (by omega)
   rw [show a.add (0*5)=a by simp [Addr.add]] at this
   exact Addr_plain (this.trans rfl)
  have key:∀(m i:Nat),i+m=len→∃r:Sts,r.len=m∧StA W r a.block (a.off+i*5)∧OkS r∧bkS r≤Rows.uptoBulkAll ((el.drop i).map (·.1))+1:=by
   intro m
   induction m with
   | zero=>intro i _;exact ⟨.nil,rfl,trivial,trivial,by simp [bkS]⟩
   | succ m ihm =>
     intro i hi
     obtain ⟨r,r1,r2,r3,r4⟩:=ihm (i+1) (by omega)
     obtain ⟨y,cs,hy,hc,ht⟩:=hel i (by omega)
     obtain ⟨hh,ao1,cap1,e,ao2,cap2,b,ao3,cap3,l,rfl,k1,k2,k3,k4,k5,k6,k7,k8,k9⟩:=stmt_in (fun m hm=>ih m (by omega)) ht
     obtain ⟨_,_,hcc⟩:=World.cells?_some hc
     have hsp:=hpl (by omega)
     refine ⟨.cons hh e b l r,by simp [Sts.len,r1],⟨⟨ao1,cap1,ao2,cap2,ao3,cap3,fun j u hu=>?_,k1,k2,k3⟩,?_⟩,⟨k4,k5,k6,k7,k8,r3⟩,?_⟩
     ·have hj:j<5:=(List.getElem?_eq_some_iff.1 hu).1
      have:=hcc j hj
      rw [hu] at this
      obtain ⟨b,off,spot⟩:=a
      simp only at hsp
      subst hsp
      rw [Addr.add_lit,Addr.add_lit] at this
      exact this
     ·rw [show a.off+i*5+5=a.off+(i+1)*5 by omega]
      exact r2
     ·rw [bulk_drop el i y hy]
      simp only [bkS]
      omega
  obtain ⟨r,r1,r2,r3,r4⟩:=key len 0 (by omega)
  refine ⟨some a,cap,r,by rw [r1],⟨by rw [r1];exact hl,hm,?_⟩,r3,?_⟩
  ·by_cases h0:len=0
   ·left;rw [r1,h0]
   ·right
    have hsp:=hpl (by omega)
    obtain ⟨b,off,spot⟩:=a
    simp only at hsp
    subst hsp
    exact ⟨b,off,rfl,by simpa using r2⟩
  ·simp only [bulk,hx,Rows.uptoBulk]
   simp only [List.drop_zero] at r4
   omega
theorem sts_in (fuel:Nat):StsIn enc W fuel:=by
 induction fuel using Nat.strongRecOn with
 | _ fuel ih=>exact sts_step fuel ih
theorem pa_in {fuel:Nat} {cs:List Value} {x:DataW H × List MemPlace} (h:DataW.trod enc Tryz.prog W 0 (fun _=>true) true fuel 89 cs=some x):∃pp:Pa,cs=paC pp∧OkN pp.name∧I64 pp.type∧pp.name.length+1≤bulk x:=by
 obtain ⟨xs,n,rfl,rfl,hlen,hxl,hf⟩:=DataW.trod_struct Tryz.underlying89 h
 rw [cells_pa] at hlen
 match cs,hlen with
 | [c0,c1],_ =>
   have hxl:xs.length=2:=hxl
   match xs,hxl with
   | [x0,x1],_ =>
     have f0:DataW.trod enc Tryz.prog W 0 (fun _=>true) true n 9 [c0]=some x0:=by
      have:DataW.trod enc Tryz.prog W 0 (fun _=>true) true n 9 (([c0,c1].drop 0).take (Tryz.prog.cellsOf 9))=some x0:=hf 0 _ rfl
      rw [cells_str] at this
      exact this
     have f1:DataW.trod enc Tryz.prog W 0 (fun _=>true) true n 3 [c1]=some x1:=by
      have:DataW.trod enc Tryz.prog W 0 (fun _=>true) true n 3 (([c0,c1].drop 1).take (Tryz.prog.cellsOf 3))=some x1:=hf 1 _ rfl
      rw [cells_int] at this
      exact this
     obtain ⟨z0,e0,rfl,w0⟩:=DataW.trod_string Tryz.underlying9 f0
     obtain rfl:c0 = .string z0:=by simpa using e0
     have y0:OkN z0.data.toList:=str_ok w0
     obtain ⟨z1,e1,rfl,w1⟩:=DataW.trod_int Tryz.underlying3 f1
     obtain rfl:c1 = .int .i64 z1:=by simpa using e1
     refine ⟨⟨z0.data.toList,z1⟩,by simp [paC,ci,ct],y0,wf_i64 w1,?_⟩
     simp only [bulk,Rows.uptoBulk,Rows.uptoBulkAll,List.map_cons,List.map_nil]
     omega
theorem pas_in {fuel:Nat} {c:Value} {x:DataW H × List MemPlace} (h:DataW.trod enc Tryz.prog W 0 (fun _=>true) true fuel 47 [c]=some x) :
 ∃(ao:Option Addr) (cap:Nat) (l:List Pa),c = .slice ao l.length cap∧PaL W ao cap l∧(∀p∈l,OkN p.name∧I64 p.type)∧(l.map (fun p=>p.name.length+1)).sum≤bulk x:=by
 rcases open_sl Tryz.underlying47 h with rfl | ⟨a,len,cap,n,el,rest,hn,rfl,hl,hm,hx,hlen,hel⟩
 ·exact ⟨none,0,[],rfl,⟨by simp,by simp [maxLen],Or.inl rfl⟩,by simp,by simp⟩
 ·rw [cells_pa] at hel
  have hpl:0<len→a.spot=none:=by
   intro h0
   obtain ⟨y,cs,_,hc,ht⟩:=hel 0 h0
   obtain ⟨pp,rfl,_⟩:=pa_in ht
   obtain ⟨_,_,hcc⟩:=World.cells?_some hc
   have:=hcc 0 (by omega)
   rw [show a.add (0*2)=a by simp [Addr.add]] at this
   exact Addr_plain (this.trans rfl)
  have key:∀(m i:Nat),i+m=len→∃r:List Pa,r.length=m∧(∀(j:Nat) (p:Pa),r[j]?=some p→∀(j2:Nat) (u:Value),(paC p)[j2]?=some u→W.cell? ⟨a.block,a.off+(i+j)*2+j2,none⟩=some u)∧(∀p∈r,OkN p.name∧I64 p.type)∧(r.map (fun p=>p.name.length+1)).sum≤Rows.uptoBulkAll ((el.drop i).map (·.1)):=by
   intro m
   induction m with
   | zero=>intro i _;exact ⟨[],rfl,by simp,by simp,by simp⟩
   | succ m ihm =>
     intro i hi
     obtain ⟨r,r1,r2,r3,r4⟩:=ihm (i+1) (by omega)
     obtain ⟨y,cs,hy,hc,ht⟩:=hel i (by omega)
     obtain ⟨pp,rfl,q1,q2,q3⟩:=pa_in ht
     obtain ⟨_,_,hcc⟩:=World.cells?_some hc
     have hsp:=hpl (by omega)
     refine ⟨pp::r,by simp [r1],fun j p hj=>?_,?_,?_⟩
     ·cases j with
      | zero =>
        obtain rfl:pp=p:=by simpa using hj
        intro j u hu
        have hj:j<2:=(List.getElem?_eq_some_iff.1 hu).1
        have:=hcc j hj
        rw [hu] at this
        obtain ⟨b,off,spot⟩:=a
        simp only at hsp
        subst hsp
        rw [Addr.add_lit,Addr.add_lit] at this
        rw [show i+0=i by omega]
        exact this
      | succ j =>
        have:=r2 j p (by simpa using hj)
        rw [show i+1+j=i+(j+1) by omega] at this
        exact this
     ·intro p hp
      rcases List.mem_cons.1 hp with rfl | hp
      ·exact ⟨q1,q2⟩
      ·exact r3 p hp
     ·rw [bulk_drop el i y hy]
      simp only [List.map_cons,List.sum_cons]
      omega
  obtain ⟨r,r1,r2,r3,r4⟩:=key len 0 (by omega)
  refine ⟨some a,cap,r,by rw [r1],⟨by rw [r1];exact hl,hm,?_⟩,r3,?_⟩
  ·by_cases h0:len=0
   ·left;exact List.eq_nil_of_length_eq_zero (by rw [r1,h0])
   ·right
    have hsp:=hpl (by omega)
    obtain ⟨b,off,spot⟩:=a
    simp only at hsp
    subst hsp
    refine ⟨b,off,rfl,fun i p hp=>?_⟩
    have:=r2 i p hp
    simpa using this
  ·simp only [bulk,hx,Rows.uptoBulk]
   simp only [List.drop_zero] at r4
   omega
theorem str_in {fuel:Nat} {cs:List Value} {x:DataW H × List MemPlace} (h:DataW.trod enc Tryz.prog W 0 (fun _=>true) true fuel 9 cs=some x):∃pp:Bs,cs=[ct pp]∧OkN pp∧pp.length+1≤bulk x:=by
 obtain ⟨z0,rfl,rfl,w0⟩:=DataW.trod_string Tryz.underlying9 h
 exact ⟨z0.data.toList,by simp [ct],str_ok w0,by simp [bulk,Rows.uptoBulk]⟩
theorem strs_in {fuel:Nat} {c:Value} {x:DataW H × List MemPlace} (h:DataW.trod enc Tryz.prog W 0 (fun _=>true) true fuel 22 [c]=some x) :
 ∃(ao:Option Addr) (cap:Nat) (l:List Bs),c = .slice ao l.length cap∧SvL W ao cap l∧(∀p∈l,OkN p)∧(l.map (fun p=>p.length+1)).sum≤bulk x:=by
 rcases open_sl Tryz.underlying22 h with rfl | ⟨a,len,cap,n,el,rest,hn,rfl,hl,hm,hx,hlen,hel⟩
 ·exact ⟨none,0,[],rfl,⟨by simp,by simp [maxLen],Or.inl rfl⟩,by simp,by simp⟩
 ·rw [cells_str] at hel
  have hpl:0<len→a.spot=none:=by
   intro h0
   obtain ⟨y,cs,_,hc,ht⟩:=hel 0 h0
   obtain ⟨pp,rfl,_⟩:=str_in ht
   obtain ⟨_,_,hcc⟩:=World.cells?_some hc
   have:=hcc 0 (by omega)
   rw [show a.add (0*1)=a by simp [Addr.add]] at this
   exact Addr_plain (this.trans rfl)
  have key:∀(m i:Nat),i+m=len→∃r:List Bs,r.length=m∧(∀(j:Nat) (p:Bs),r[j]?=some p→∀(j2:Nat) (u:Value),[ct p][j2]?=some u→W.cell? ⟨a.block,a.off+(i+j)*1+j2,none⟩=some u)∧(∀p∈r,OkN p)∧(r.map (fun p=>p.length+1)).sum≤Rows.uptoBulkAll ((el.drop i).map (·.1)):=by
   intro m
   induction m with
   | zero=>intro i _;exact ⟨[],rfl,by simp,by simp,by simp⟩
   | succ m ihm =>
     intro i hi
     obtain ⟨r,r1,r2,r3,r4⟩:=ihm (i+1) (by omega)
     obtain ⟨y,cs,hy,hc,ht⟩:=hel i (by omega)
     obtain ⟨pp,rfl,q1,q3⟩:=str_in ht
     obtain ⟨_,_,hcc⟩:=World.cells?_some hc
     have hsp:=hpl (by omega)
     refine ⟨pp::r,by simp [r1],fun j p hj=>?_,?_,?_⟩
     ·cases j with
      | zero =>
        obtain rfl:pp=p:=by simpa using hj
        intro j u hu
        have hj:j<1:=(List.getElem?_eq_some_iff.1 hu).1
        have:=hcc j hj
        rw [hu] at this
        obtain ⟨b,off,spot⟩:=a
        simp only at hsp
        subst hsp
        rw [Addr.add_lit,Addr.add_lit] at this
        rw [show i+0=i by omega]
        exact this
      | succ j =>
        have:=r2 j p (by simpa using hj)
        rw [show i+1+j=i+(j+1) by omega] at this
        exact this
     ·intro p hp
      rcases List.mem_cons.1 hp with rfl | hp
      ·exact q1
      ·exact r3 p hp
     ·rw [bulk_drop el i y hy]
      simp only [List.map_cons,List.sum_cons]
      omega
  obtain ⟨r,r1,r2,r3,r4⟩:=key len 0 (by omega)
  refine ⟨some a,cap,r,by rw [r1],⟨by rw [r1];exact hl,hm,?_⟩,r3,?_⟩
  ·by_cases h0:len=0
   ·left;exact List.eq_nil_of_length_eq_zero (by rw [r1,h0])
   ·right
    have hsp:=hpl (by omega)
    obtain ⟨b,off,spot⟩:=a
    simp only at hsp
    subst hsp
    refine ⟨b,off,rfl,fun i p hp=>?_⟩
    have:=r2 i p hp
    have:=this 0 _ rfl
    simpa using this
  ·simp only [bulk,hx,Rows.uptoBulk]
   simp only [List.drop_zero] at r4
   omega
theorem de_in {fuel:Nat} {cs:List Value} {x:DataW H × List MemPlace} (h:DataW.trod enc Tryz.prog W 0 (fun _=>true) true fuel 51 cs=some x):∃(pp:De) (pv ev bv:Value),cs=deC pp pv ev bv∧DeI W pp pv ev bv∧OkD pp∧pp.name.length+(pp.params.map fun p=>p.name.length+1).sum+bkX pp.e+bkS pp.body+1≤bulk x:=by
 obtain ⟨xs,n,rfl,rfl,hlen,hxl,hf⟩:=DataW.trod_struct Tryz.underlying51 h
 rw [cells_de] at hlen
 match cs,hlen with
 | [c0,c1,c2,c3,c4,c5,c6],_ =>
   have hxl:xs.length=7:=hxl
   match xs,hxl with
   | [x0,x1,x2,x3,x4,x5,x6],_ =>
     have f0:DataW.trod enc Tryz.prog W 0 (fun _=>true) true n 3 [c0]=some x0:=by
      have:DataW.trod enc Tryz.prog W 0 (fun _=>true) true n 3 (([c0,c1,c2,c3,c4,c5,c6].drop 0).take (Tryz.prog.cellsOf 3))=some x0:=hf 0 _ rfl
      rw [cells_int] at this
      exact this
     have f1:DataW.trod enc Tryz.prog W 0 (fun _=>true) true n 4 [c1]=some x1:=by
      have:DataW.trod enc Tryz.prog W 0 (fun _=>true) true n 4 (([c0,c1,c2,c3,c4,c5,c6].drop 1).take (Tryz.prog.cellsOf 4))=some x1:=hf 1 _ rfl
      rw [cells_bool] at this
      exact this
     have f2:DataW.trod enc Tryz.prog W 0 (fun _=>true) true n 9 [c2]=some x2:=by
      have:DataW.trod enc Tryz.prog W 0 (fun _=>true) true n 9 (([c0,c1,c2,c3,c4,c5,c6].drop 2).take (Tryz.prog.cellsOf 9))=some x2:=hf 2 _ rfl
      rw [cells_str] at this
      exact this
     have f3:DataW.trod enc Tryz.prog W 0 (fun _=>true) true n 3 [c3]=some x3:=by
      have:DataW.trod enc Tryz.prog W 0 (fun _=>true) true n 3 (([c0,c1,c2,c3,c4,c5,c6].drop 3).take (Tryz.prog.cellsOf 3))=some x3:=hf 3 _ rfl
      rw [cells_int] at this
      exact this
     have f4:DataW.trod enc Tryz.prog W 0 (fun _=>true) true n 47 [c4]=some x4:=by
      have:DataW.trod enc Tryz.prog W 0 (fun _=>true) true n 47 (([c0,c1,c2,c3,c4,c5,c6].drop 4).take (Tryz.prog.cellsOf 47))=some x4:=hf 4 _ rfl
      rw [cells_pas] at this
      exact this
     have f5:DataW.trod enc Tryz.prog W 0 (fun _=>true) true n 48 [c5]=some x5:=by
      have:DataW.trod enc Tryz.prog W 0 (fun _=>true) true n 48 (([c0,c1,c2,c3,c4,c5,c6].drop 5).take (Tryz.prog.cellsOf 48))=some x5:=hf 5 _ rfl
      rw [cells_exs] at this
      exact this
     have f6:DataW.trod enc Tryz.prog W 0 (fun _=>true) true n 49 [c6]=some x6:=by
      have:DataW.trod enc Tryz.prog W 0 (fun _=>true) true n 49 (([c0,c1,c2,c3,c4,c5,c6].drop 6).take (Tryz.prog.cellsOf 49))=some x6:=hf 6 _ rfl
      rw [cells_sts] at this
      exact this
     obtain ⟨z0,e0,rfl,w0⟩:=DataW.trod_int Tryz.underlying3 f0
     obtain rfl:c0 = .int .i64 z0:=by simpa using e0
     obtain ⟨z1,e1,rfl⟩:=DataW.trod_bool Tryz.underlying4 f1
     obtain rfl:c1 = .bool z1:=by simpa using e1
     obtain ⟨z2,e2,rfl,w2⟩:=DataW.trod_string Tryz.underlying9 f2
     obtain rfl:c2 = .string z2:=by simpa using e2
     have y2:OkN z2.data.toList:=str_ok w2
     obtain ⟨z3,e3,rfl,w3⟩:=DataW.trod_int Tryz.underlying3 f3
     obtain rfl:c3 = .int .i64 z3:=by simpa using e3
     obtain ⟨ao1,cap1,l,rfl,a1,a2,a3⟩:=pas_in f4
     obtain ⟨ao2,cap2,e,rfl,b1,b2,b3⟩:=exs_in n _ _ f5
     obtain ⟨ao3,cap3,b,rfl,d1,d2,d3⟩:=sts_in n _ _ f6
     refine ⟨⟨z0,z1,z2.data.toList,z3,l,e,b⟩,.slice ao1 l.length cap1,.slice ao2 e.len cap2,.slice ao3 b.len cap3,by simp [deC,ci,ct],⟨ao1,cap1,ao2,cap2,ao3,cap3,rfl,rfl,rfl,a1,b1,d1⟩,⟨wf_i64 w0,wf_i64 w3,y2,a2,b2,d2⟩,?_⟩
     simp only [bulk,Rows.uptoBulk,Rows.uptoBulkAll,List.map_cons,List.map_nil] at a3 b3 d3 ⊢
     omega
def bkD (d:De):Nat:=d.name.length+(d.params.map fun p=>p.name.length+1).sum+bkX d.e+bkS d.body+1
theorem des_in {fuel:Nat} {c:Value} {x:DataW H × List MemPlace} (h:DataW.trod enc Tryz.prog W 0 (fun _=>true) true fuel 23 [c]=some x) :
 ∃(ao:Option Addr) (cap:Nat) (l:List De),c = .slice ao l.length cap∧DeL W ao cap l∧(∀p∈l,OkD p)∧(l.map bkD).sum≤bulk x:=by
 rcases open_sl Tryz.underlying23 h with rfl | ⟨a,len,cap,n,el,rest,hn,rfl,hl,hm,hx,hlen,hel⟩
 ·exact ⟨none,0,[],rfl,⟨by simp,by simp [maxLen],Or.inl rfl⟩,by simp,by simp⟩
 ·rw [cells_de] at hel
  have hpl:0<len→a.spot=none:=by
   intro h0
   obtain ⟨y,cs,_,hc,ht⟩:=hel 0 h0
   obtain ⟨pp,pv,ev,bv,rfl,_⟩:=de_in ht
   obtain ⟨_,_,hcc⟩:=World.cells?_some hc
   have:=hcc 0 (by omega)
   rw [show a.add (0*7)=a by simp [Addr.add]] at this
   exact Addr_plain (this.trans rfl)
  have key:∀(m i:Nat),i+m=len→∃r:List De,r.length=m∧(∀(j:Nat) (p:De),r[j]?=some p→∃pv ev bv,DeI W p pv ev bv∧∀(j2:Nat) (u:Value),(deC p pv ev bv)[j2]?=some u→W.cell? ⟨a.block,a.off+(i+j)*7+j2,none⟩=some u)∧(∀p∈r,OkD p)∧(r.map bkD).sum≤Rows.uptoBulkAll ((el.drop i).map (·.1)):=by
   intro m
   induction m with
   | zero=>intro i _;exact ⟨[],rfl,by simp,by simp,by simp⟩
   | succ m ihm =>
     intro i hi
     obtain ⟨r,r1,r2,r3,r4⟩:=ihm (i+1) (by omega)
     obtain ⟨y,cs,hy,hc,ht⟩:=hel i (by omega)
     obtain ⟨pp,pv,ev,bv,rfl,q0,q1,q3⟩:=de_in ht
     obtain ⟨_,_,hcc⟩:=World.cells?_some hc
     have hsp:=hpl (by omega)
     refine ⟨pp::r,by simp [r1],fun j p hj=>?_,?_,?_⟩
     ·cases j with
      | zero =>
        obtain rfl:pp=p:=by simpa using hj
        refine ⟨pv,ev,bv,q0,fun j u hu=>?_⟩
        have hj:j<7:=(List.getElem?_eq_some_iff.1 hu).1
        have:=hcc j hj
        rw [hu] at this
        obtain ⟨b,off,spot⟩:=a
        simp only at hsp
        subst hsp
        rw [Addr.add_lit,Addr.add_lit] at this
        rw [show i+0=i by omega]
        exact this
      | succ j =>
        have:=r2 j p (by simpa using hj)
        rw [show i+1+j=i+(j+1) by omega] at this
        exact this
     ·intro p hp
      rcases List.mem_cons.1 hp with rfl | hp
      ·exact q1
      ·exact r3 p hp
     ·rw [bulk_drop el i y hy]
      simp only [List.map_cons,List.sum_cons]
      unfold bkD at *
      omega
  obtain ⟨r,r1,r2,r3,r4⟩:=key len 0 (by omega)
  refine ⟨some a,cap,r,by rw [r1],⟨by rw [r1];exact hl,hm,?_⟩,r3,?_⟩
  ·by_cases h0:len=0
   ·left;exact List.eq_nil_of_length_eq_zero (by rw [r1,h0])
   ·right
    have hsp:=hpl (by omega)
    obtain ⟨b,off,spot⟩:=a
    simp only at hsp
    subst hsp
    refine ⟨b,off,rfl,fun i p hp=>?_⟩
    have:=r2 i p hp
    simpa using this
  ·simp only [bulk,hx,Rows.uptoBulk]
   simp only [List.drop_zero] at r4
   omega
theorem mo_in {fuel:Nat} {cs:List Value} {x:DataW H × List MemPlace} (h:DataW.trod enc Tryz.prog W 0 (fun _=>true) true fuel 25 cs=some x):∃(m:Mo),MoI W m (.agg cs.toArray)∧OkM m∧m.name.length+(m.imports.map fun p=>p.length+1).sum+(m.decls.map bkD).sum+1≤bulk x:=by
 obtain ⟨xs,n,rfl,rfl,hlen,hxl,hf⟩:=DataW.trod_struct Tryz.underlying25 h
 rw [cells_mo] at hlen
 match cs,hlen with
 | [c0,c1,c2],_ =>
   have hxl:xs.length=3:=hxl
   match xs,hxl with
   | [x0,x1,x2],_ =>
     have f0:DataW.trod enc Tryz.prog W 0 (fun _=>true) true n 9 [c0]=some x0:=by
      have:DataW.trod enc Tryz.prog W 0 (fun _=>true) true n 9 (([c0,c1,c2].drop 0).take (Tryz.prog.cellsOf 9))=some x0:=hf 0 _ rfl
      rw [cells_str] at this
      exact this
     have f1:DataW.trod enc Tryz.prog W 0 (fun _=>true) true n 22 [c1]=some x1:=by
      have:DataW.trod enc Tryz.prog W 0 (fun _=>true) true n 22 (([c0,c1,c2].drop 1).take (Tryz.prog.cellsOf 22))=some x1:=hf 1 _ rfl
      rw [cells_strs] at this
      exact this
     have f2:DataW.trod enc Tryz.prog W 0 (fun _=>true) true n 23 [c2]=some x2:=by
      have:DataW.trod enc Tryz.prog W 0 (fun _=>true) true n 23 (([c0,c1,c2].drop 2).take (Tryz.prog.cellsOf 23))=some x2:=hf 2 _ rfl
      rw [cells_des] at this
      exact this
     obtain ⟨z0,e0,rfl,w0⟩:=DataW.trod_string Tryz.underlying9 f0
     obtain rfl:c0 = .string z0:=by simpa using e0
     have y0:OkN z0.data.toList:=str_ok w0
     obtain ⟨ao1,cap1,l,rfl,a1,a2,a3⟩:=strs_in f1
     obtain ⟨ao2,cap2,d,rfl,b1,b2,b3⟩:=des_in f2
     refine ⟨⟨z0.data.toList,l,d⟩,⟨ao1,cap1,ao2,cap2,by simp [moV,ct],a1,b1⟩,⟨y0,a2,b2⟩,?_⟩
     simp only [bulk,Rows.uptoBulk,Rows.uptoBulkAll,List.map_cons,List.map_nil] at a3 b3 ⊢
     omega
theorem mo_arg {fuel:Nat} {v:Value} {x:DataW H × List MemPlace} (h:DataW.trod enc Tryz.prog W 0 (fun _=>true) true fuel 25 v.cells.toList=some x):∃(m:Mo),MoI W m v∧OkM m∧m.name.length+(m.imports.map fun p=>p.length+1).sum+(m.decls.map bkD).sum+1≤bulk x:=by
 have hl:v.cells.toList.length=3:=by
  obtain ⟨xs,n,_,_,hlen,_⟩:=DataW.trod_struct Tryz.underlying25 h
  rw [cells_mo] at hlen
  exact hlen
 have hv:v = .agg v.cells.toList.toArray:=by
  cases v with
  | agg cs=>simp [Value.cells]
  | _=>simp [Value.cells] at hl
 have:=mo_in h
 rw [←hv] at this
 exact this
end Go.Proofs.YteijjaabngkbjaaGreatDoor.In
namespace Go.Proofs.YteijjaabngkbjaaGreatDoor
open Go.RowKit Te
theorem textS_len (a:Int) (ha:F.Fl.U a):(F.textS a).length≤3001:=by
 obtain ⟨h1,h2,h3⟩:=F.parts_bounds a ha
 have:=F.sizeL_len (F.Fl.classS a) (F.partM a).toNat (F.partE a) h1 h2 h3
 unfold F.textS
 rw [List.length_append]
 split<;>simp<;>omega
theorem txS_len (vt vb:Int) (h0:0≤vb) (h1:vb<18446744073709551616) (h2:vt=1→vb<9223372036854775808):(txS vt vb).length≤3001:=by
 unfold txS
 split
 ·have hv:=h2 (by assumption)
  have:=(D.itoa_len vb ⟨by omega,by omega⟩).1
  omega
 split
 ·exact textS_len vb ⟨h0,h1⟩
 split<;>simp
end Go.Proofs.YteijjaabngkbjaaGreatDoor
namespace Go.Proofs.YteijjaabngkbjaaGreatDoor
open Go.RowKit Lx Te
theorem kws_in:∀x∈Pz.kws,x∈wordsL:=by decide
theorem tx_ln (vt vb:Int) (h:litOk cnS vt vb=true) (h0:0≤vb):(txS vt vb).length≤3001:=by
 have hb:vb<9223372036854775808:=by
  unfold litOk at h
  split at h
  ·simpa using h
  ·split at h
   ·rw [Bool.and_eq_true] at h;simpa using h.1
   ·split at h
    ·have:vb≤1:=by simpa using h
     omega
    ·cases h
 exact txS_len vt vb h0 (by omega) (fun _=>hb)
theorem nnX_of:∀(k:Exs),OkX k→Pz.NnX k
 | .nil,_=>trivial
 | .cons h k r,⟨h1,h2,h3⟩=>⟨h1.vb0,nnX_of k h2,nnX_of r h3⟩
theorem nnS_of:∀(k:Sts),OkS k→Pz.NnS k
 | .nil,_=>trivial
 | .cons h e b l r,⟨_,_,h1,h2,h3,h4⟩=>⟨nnX_of e h1,nnS_of b h2,nnS_of l h3,nnS_of r h4⟩
theorem nnD_of {d:De} (h:OkD d):Pz.NnD d:=⟨nnX_of _ h.e,nnS_of _ h.body⟩
theorem sz_bkX:∀k:Exs,k.size+1≤In.bkX k
 | .nil=>Nat.le_refl _
 | .cons h k r=>by have:=sz_bkX k;have:=sz_bkX r;simp only [Exs.size,In.bkX];omega
theorem sz_bkS:∀k:Sts,k.size+1≤In.bkS k
 | .nil=>Nat.le_refl _
 | .cons h e b l r=>by have:=sz_bkX e;have:=sz_bkS b;have:=sz_bkS l;have:=sz_bkS r;simp only [Sts.size,In.bkS];omega
theorem pa_sum:∀l:List Pa,l.length≤(l.map fun p=>p.name.length+1).sum
 | []=>Nat.le_refl _
 | p::r=>by have:=pa_sum r;simp only [List.length_cons,List.map_cons,List.sum_cons];omega
theorem im_sum:∀l:List Bs,l.length≤(l.map fun p=>p.length+1).sum
 | []=>Nat.le_refl _
 | p::r=>by have:=im_sum r;simp only [List.length_cons,List.map_cons,List.sum_cons];omega
theorem nd_bk (d:De):ndD d≤In.bkD d:=by
 have:=sz_bkX d.e
 have:=sz_bkS d.body
 have:=pa_sum d.params
 unfold ndD In.bkD
 omega
theorem fDs_bk:∀l:List De,Pz.fDs l≤(l.map In.bkD).sum
 | []=>Nat.le_refl _
 | d::r=>by
   have:=fDs_bk r
   have:=nd_bk d
   simp only [Pz.fDs,List.map_cons,List.sum_cons] at *
   omega
theorem errDs_mem:∀(l:List De),errDs rnS cnS l=0→∀d∈l,errD rnS cnS d=0
 | [],_,d,hd=>by simp at hd
 | x::r,h,d,hd=>by
   obtain ⟨h1,h2⟩:=Pz.orE_0 h
   rcases List.mem_cons.1 hd with rfl | hd
   ·exact h1
   ·exact errDs_mem r h2 d hd
theorem errM_decls {m:Mo} (h:errM rnS cnS m=0):∀d∈m.decls,errD rnS cnS d=0:=by
 unfold errM at h
 obtain ⟨_,a2⟩:=Pz.orE_0 h
 obtain ⟨_,a4⟩:=Pz.orE_0 a2
 obtain ⟨_,a6⟩:=Pz.orE_0 a4
 obtain ⟨_,a8⟩:=Pz.orE_0 a6
 exact errDs_mem _ a8
theorem mo_len (m:Mo) (he:errM rnS cnS m=0) (hN:∀d∈m.decls,Pz.NnD d) (hsz:m.imports.length+Pz.fDs m.decls≤10000000):(moT txS m).length≤60000000000:=by
 have:=Pz.moT_ln (rn:=rnS) (cn:=cnS) (tx:=txS) (fun x h=>rn_len h) tx_ln m he hN
 omega
theorem print_up (m:Mo) (v:Value) (w:World) (hok:OkM m) (hv:MoI w m v) (ht:F.Tab w) (hsz:m.imports.length+Pz.fDs m.decls≤10000000) :
 Calls Tryz.prog 8 #[v] w fun e w'=>e = .returned (.tuple #[ct (prS m).1,ci (prS m).2])∧Fr (fun _=>False) w w' :=
 print_w m v w hok hv ht (fun he d hd=>decl_w d (errM_decls he d hd) (hok.decls d hd)) (fun he=>by have:=mo_len m he (fun d hd=>nnD_of (hok.decls d hd)) hsz;omega)
theorem pr_back (m:Mo) (he:errM rnS cnS m=0) (hN:∀d∈m.decls,Pz.NnD d) (h3:(lexS wordsL valS (moT txS m)).2.2≠3):Pz.parS (moT txS m)=some (some m,0,0):=by
 have h0:(lexS wordsL valS (moT txS m)).2.2=0:=by
  rcases Pz.rd_err (Pz.rd_mo lawT kws_in m he hN) with h | h
  ·exact h
  ·exact absurd h h3
 unfold Pz.parS
 rw [if_pos h0]
 refine Pz.mod_back lawT kws_in lawI m he hN _ (lexS wordsL valS (moT txS m)).2.1 ?_ _
 exact Prod.ext rfl (Prod.ext rfl h0)
end Go.Proofs.YteijjaabngkbjaaGreatDoor
namespace Go.Proofs.YteijjaabngkbjaaGreatDoor
open Go.RowKit Lx Te
theorem alive7_any (w:World) (ht:F.Tab w):Calls Tryz.prog 13 #[] w fun e w'=>e = .returned (.bool true)∧Fr (fun _=>False) w w':=by
 have kA:Calls Tryz.prog 31 #[.string ⟨#[49,32,43,32,50,32,42,32,120]⟩] w fun e w'=>∃ao cap,e = .returned (.tuple #[.agg #[.int .i64 7,.int .i64 1,.string ⟨#[]⟩,.string ⟨#[]⟩,.int .i64 0,.int .u64 0,.slice ao 2 cap],.int .i64 0,.int .i64 0])∧ExL w' ao cap (.cons ⟨1,0,[],[],1,1⟩ .nil (.cons ⟨7,3,[],[],0,0⟩ (.cons ⟨1,0,[],[],1,2⟩ .nil (.cons ⟨2,0,[],[120],0,0⟩ .nil .nil)) .nil))∧Fr (fun _=>False) w w':=xpr_any liveA _ 0 0 (by decide) liveA_is w ht
 have kB:∀w,F.Tab w→Calls Tryz.prog 31 #[.string ⟨#[97,32,60,32,98,32,60,32,99]⟩] w fun e w'=>∃ao cap,e = .returned (.tuple #[.agg #[.int .i64 0,.int .i64 0,.string ⟨#[]⟩,.string ⟨#[]⟩,.int .i64 0,.int .u64 0,.slice ao 0 cap],.int .i64 6,.int .i64 11])∧ExL w' ao cap .nil∧Fr (fun _=>False) w w':=fun w ht=>xpr_any liveB _ 6 11 (by decide) liveB_is w ht
 have kC:∀w,F.Tab w→Calls Tryz.prog 14 #[.string ⟨#[109,111,100,117,108,101,32,109,59,32,102,110,32,102,40,97,58,32,105,110,116,41,58,32,98,111,111,108,32,123,32,114,101,116,117,114,110,32,97,32,62,32,48,59,32,125]⟩] w fun e w'=>∃ao cap ao' cap',e = .returned (.tuple #[.agg #[.string ⟨#[109]⟩,.slice ao 0 cap,.slice ao' 1 cap'],.int .i64 0,.int .i64 0])∧SvL w' ao cap []∧DeL w' ao' cap' [⟨3,false,[102],3,[⟨[97],1⟩],.nil,.cons ⟨5,[]⟩ (.cons ⟨7,10,[],[],0,0⟩ (.cons ⟨2,0,[],[97],0,0⟩ .nil (.cons ⟨1,0,[],[],1,0⟩ .nil .nil)) .nil) .nil .nil .nil⟩]∧Fr (fun _=>False) w w':=fun w ht=>par_any liveC _ 0 0 (by decide) liveC_is w ht
 go_enter Tryz.func13,Tryz.ntmps13
 go_wp2_with fail
 go_at_call 31
 refine kA.mono ?_
 rintro e W1 ⟨ao1,cap1,rfl,hx,f1⟩
 obtain ⟨hl1,hm1,h0 | ⟨b1,off1,rfl,hA⟩⟩:=hx
 ·simp [Exs.len] at h0
 obtain ⟨_,⟨ao5,cap5,hc5,_⟩,_⟩:=hA
 have hop:W1.cell? ⟨b1,off1+7+1,none⟩=some (.int .i64 3):=hc5 1 _ rfl
 have hm1':cap1≤9223372036854775807:=by unfold maxLen at hm1;omega
 have hl1':2≤cap1:=hl1
 have fa:=Fr.alloc (fun _=>False) W1 (.cells #[.int .i64 7,.int .i64 1,.string ⟨#[]⟩,.string ⟨#[]⟩,.int .i64 0,.int .u64 0,.slice (some ⟨b1,off1,none⟩) 2 cap1] 59)
 have hn1:Hidden ((W1.alloc (.cells #[.int .i64 7,.int .i64 1,.string ⟨#[]⟩,.string ⟨#[]⟩,.int .i64 0,.int .u64 0,.slice (some ⟨b1,off1,none⟩) 2 cap1] 59)).heap[W1.heap.size]?=some (.cells #[.int .i64 7,.int .i64 1,.string ⟨#[]⟩,.string ⟨#[]⟩,.int .i64 0,.int .u64 0,.slice (some ⟨b1,off1,none⟩) 2 cap1] 59 (0,0))):=alloc_new _ _
 clear hc5 hl1 hm1
 go_wp2_with fail
 go_at_call 31
 refine (kB _ (tab_fr ht (f1.same fa))).mono ?_
 rintro e W2 ⟨ao2,cap2,rfl,hx2,f2⟩
 have fb:=Fr.alloc (fun _=>False) W2 (.cells #[.int .i64 0,.int .i64 0,.string ⟨#[]⟩,.string ⟨#[]⟩,.int .i64 0,.int .u64 0,.slice ao2 0 cap2] 59)
 have g2:=(f1.same fa).same (f2.same fb)
 go_wp2_with fail
 go_at_call 14
 refine (kC _ (tab_fr ht g2)).mono ?_
 rintro e W3 ⟨ao3,cap3,ao4,cap4,rfl,hs3,hd3,f3⟩
 obtain ⟨hl4,hm4,h0 | ⟨b4,off4,rfl,hD⟩⟩:=hd3
 ·cases h0
 obtain ⟨pv,ev,bv,⟨a1,p1,a2,p2,a3,p3,rfl,rfl,rfl,_,_,hst⟩,hcells⟩:=hD 0 _ rfl
 have hbody:W3.cell? ⟨b4,off4+6,none⟩=some (.slice a3 1 p3):=by
  have h:=hcells 6 _ rfl
  rw [show off4+0*7+6=off4+6 by omega] at h
  exact h
 have hp3:p3≤9223372036854775807:=by have:=hst.2.1;unfold maxLen at this;omega
 have hm4':cap4≤9223372036854775807:=by unfold maxLen at hm4;omega
 have hl4':1≤cap4:=hl4
 have hn3:=f3.heap (fb.heap (f2.heap hn1 (fun f=>f)) (fun f=>f)) (fun f=>f)
 have hop3:=f3.cellN (fb.cellN (f2.cellN (fa.cellN hop)))
 have fc:=Fr.alloc (fun _=>False) W3 (.cells #[.string ⟨#[109]⟩,.slice ao3 0 cap3,.slice (some ⟨b4,off4,none⟩) 1 cap4] 25)
 obtain ⟨x0,x1,x2,x3,x4,x5,x6,y0,y1,y2,y3,y4,y5,y6⟩:=box7 (fc.heap hn3 (fun f=>f))
 have hop4:=fc.cellN hop3
 have hbody4:=fc.cellN hbody
 clear hcells hD hl4 hm4 y0 y1 y2 y3 y4 y5 y6 hn3 hn1 hop hbody hop3
 go_wp2_with fail
 go_ret
 exact ⟨rfl,(g2.same f3).same fc⟩
end Go.Proofs.YteijjaabngkbjaaGreatDoor
namespace Go.Proofs.YteijjaabngkbjaaGreatDoor
open Go.RowKit Te
theorem ret_b {x y:Bool} (h:x=y):Ending.returned (.bool x) = .returned (.bool y):=by rw [h]
end Go.Proofs.YteijjaabngkbjaaGreatDoor
namespace Go.Proofs.YteijjaabngkbjaaGreatDoor.X
open Go.RowKit Te
def SameL (k:Exs):Prop:=∀(k2:Exs) (ao ao2:Option Addr) (cap cap2:Nat) (w:World),ExL w ao cap k→ExL w ao2 cap2 k2 →
 Calls Tryz.prog 71 #[.slice ao k.len cap,.slice ao2 k2.len cap2] w fun e w'=>e = .returned (.bool (decide (k=k2)))∧Fr (fun _=>False) w w'
def SameX (h:EH) (k:Exs):Prop:=∀(h2:EH) (k2:Exs) (ao ao2:Option Addr) (cap cap2:Nat) (w:World),ExL w ao cap k→ExL w ao2 cap2 k2 →
 Calls Tryz.prog 115 #[exV h (.slice ao k.len cap),exV h2 (.slice ao2 k2.len cap2)] w fun e w'=>e = .returned (.bool (decide (h=h2∧k=k2)))∧Fr (fun _=>False) w w'
theorem sameX_step (h:EH) (k:Exs) (hL:SameL k):SameX h k:=by
 intro h2 k2 ao ao2 cap cap2 w e1 e2
 by_cases hh:h=h2
 ·subst hh
  obtain ⟨kind,op,mod,name,vt,vb⟩:=h
  have f0:Fr (fun _=>False) w ((w.alloc (.cells #[ci kind,ci op,ct mod,ct name,ci vt,.int .u64 vb,.slice ao k.len cap] 59)).alloc (.cells #[ci kind,ci op,ct mod,ct name,ci vt,.int .u64 vb,.slice ao2 k2.len cap2] 59)):=(Fr.alloc _ _ _).same (Fr.alloc _ _ _)
  have kq:=hL k2 ao ao2 cap cap2 _ (e1.keep f0) (e2.keep f0)
  rw [show decide ((⟨kind,op,mod,name,vt,vb⟩:EH)=⟨kind,op,mod,name,vt,vb⟩∧k=k2)=decide (k=k2) by simp]
  generalize decide (k=k2)=r at kq
  go_enter Tryz.func115,Tryz.ntmps115
  go_wp2_with (go_at_call 71;refine kq.mono ?_;rintro e w1 ⟨rfl,f1⟩)
  go_ret
  exact ⟨rfl,f0.same f1⟩
 ·obtain ⟨kind,op,mod,name,vt,vb⟩:=h
  obtain ⟨kind2,op2,mod2,name2,vt2,vb2⟩:=h2
  have hhH:Hidden (¬(kind=kind2∧op=op2∧mod=mod2∧name=name2∧vt=vt2∧vb=vb2)):=by
   intro hc
   apply hh
   obtain ⟨rfl,rfl,rfl,rfl,rfl,rfl⟩:=hc
   rfl
  rw [show decide ((⟨kind,op,mod,name,vt,vb⟩:EH)=⟨kind2,op2,mod2,name2,vt2,vb2⟩∧k=k2)=false by simp only [decide_eq_false_iff_not];exact fun hc=>hh hc.1]
  clear hh
  go_enter Tryz.func115,Tryz.ntmps115
  go_wp2_with fail
  all_goals (first
   | (go_ret
      exact ⟨rfl,(Fr.alloc _ _ _).same (Fr.alloc _ _ _)⟩)
   | (exfalso
      apply (show ¬_ from hhH)
      try simp only [Bool.and_eq_true,beq_iff_eq,bne_eq_false_iff_eq] at *
      simp [*]
      done))
theorem sameL_step (k:Exs) (ih:∀h' k',k'.size<k.size→SameX h' k'):SameL k:=by
 intro k2 ao ao2 cap cap2 w e1 e2
 have r1:=e1.rest
 have r2:=e2.rest
 have l1:k.len≤9223372036854775807:=by have:=e1.1;have:=e1.2.1;unfold maxLen at this;omega
 have l2:k2.len≤9223372036854775807:=by have:=e2.1;have:=e2.2.1;unfold maxLen at this;omega
 have m1:=e1.1
 have m2:=e2.1
 obtain ⟨R,hR⟩:∃R,decide (k=k2)=R:=⟨_,rfl⟩
 rw [hR]
 have hRH:Hidden (decide (k=k2)=R):=hR
 clear hR
 by_cases hlen:k.len=k2.len
 ·have hne:((k.len:Int) != (k2.len:Int))=false:=by simp [hlen]
  have hlenH:Hidden (k.len=k2.len):=hlen
  clear hlen
  go_enter Tryz.func71,Tryz.ntmps71
  go_wp2_with fail
  go_loopg [5] k.len (fun g iv wr=>∃(i:Nat) (r q:Exs),iv=ci (i:Int)∧i+r.len=k.len∧i+q.len=k2.len∧r.size≤k.size∧ExR w ao i r∧ExR w ao2 i q∧R=decide (r=q)∧g=r.len∧Fr (fun _=>False) w wr)
  case atStart=>exact ⟨0,k,k2,rfl,by omega,by omega,Nat.le_refl _,r1,r2,(show _=R from hRH).symm,rfl,Fr.refl _ _⟩
  case round =>
   obtain ⟨i,r,q,rfl,hl1,hl2,hsize,hrow,hrow2,hdk,hgk,hfr⟩:=hrel
   have hgkH:Hidden (gk=r.len):=hgk
   have hdkH:Hidden (R=decide (r=q)):=hdk
   have hl1H:Hidden (i+r.len=k.len):=hl1
   have hl2H:Hidden (i+q.len=k2.len):=hl2
   clear hgk hdk hl1 hl2 r1 r2
   cases r with
   | nil =>
     have hi:i=k.len:=hl1H
     have hq:q.len=0:=by have:i+q.len=k2.len:=hl2H;have:k.len=k2.len:=hlenH;omega
     have hq0:q = .nil:=by
      cases q with
      | nil=>rfl
      | cons _ _ _=>simp [Exs.len] at hq
     have hres:Hidden (true=R):=by rw [show R=_ from hdkH,hq0];rfl
     clear hq hq0 hrow2 hrow
     subst hi
     go_wp2_with fail
     go_ret
     exact ⟨ret_b hres,hfr⟩
   | cons h' k' r' =>
     cases q with
     | nil =>
       exfalso
       have a1:i+(r'.len+1)=k.len:=hl1H
       have a2:i+0=k2.len:=hl2H
       have a3:k.len=k2.len:=hlenH
       omega
     | cons h'' k'' r'' =>
       have hil:i<k.len:=by have:i+(r'.len+1)=k.len:=hl1H;omega
       have hil2:i<k2.len:=by have:i+(r''.len+1)=k2.len:=hl2H;omega
       obtain ⟨b,off,ao',cap',rfl,hL,hn1,d0,d1,d2,d3,d4,d5,d6⟩:=hrow.next
       obtain ⟨b',off',ao'',cap'',rfl,hL2,hn2,c0,c1,c2,c3,c4,c5,c6⟩:=hrow2.next
       have d0:=hfr.cellN d0
       have d1:=hfr.cellN d1
       have d2:=hfr.cellN d2
       have d3:=hfr.cellN d3
       have d4:=hfr.cellN d4
       have d5:=hfr.cellN d5
       have d6:=hfr.cellN d6
       have c0:=hfr.cellN c0
       have c1:=hfr.cellN c1
       have c2:=hfr.cellN c2
       have c3:=hfr.cellN c3
       have c4:=hfr.cellN c4
       have c5:=hfr.cellN c5
       have c6:=hfr.cellN c6
       simp only [Exs.size] at hsize
       have ke:=ih h' k' (by omega) h'' k'' ao' ao'' cap' cap'' _ ((hL.keep hfr).keep (Fr.drew (fun _=>False) wr)) ((hL2.keep hfr).keep (Fr.drew (fun _=>False) wr))
       have hdk2:Hidden (R=(decide (h'=h''∧k'=k'') && decide (r'=r''))):=by
        show R=_
        rw [show R=_ from hdkH,Bool.eq_iff_iff]
        simp [and_assoc]
       generalize decide (h'=h''∧k'=k'')=sb at ke hdk2
       cases sb
       ·have hres:Hidden (false=R):=(show R=false from hdk2).symm
        clear hdkH hdk2
        go_wp2_with fail
        go_region_held3 (fun w'=>w'.cell? ⟨b,off+i*7,none⟩=some (ci h'.kind)∧w'.cell? ⟨b,off+i*7+1,none⟩=some (ci h'.op)∧w'.cell? ⟨b,off+i*7+2,none⟩=some (ct h'.mod)∧w'.cell? ⟨b,off+i*7+3,none⟩=some (ct h'.name)∧w'.cell? ⟨b,off+i*7+4,none⟩=some (ci h'.vt)∧w'.cell? ⟨b,off+i*7+5,none⟩=some (.int .u64 h'.vb)∧w'.cell? ⟨b,off+i*7+6,none⟩=some (.slice ao' k'.len cap')∧w'.cell? ⟨b',off'+i*7,none⟩=some (ci h''.kind)∧w'.cell? ⟨b',off'+i*7+1,none⟩=some (ci h''.op)∧w'.cell? ⟨b',off'+i*7+2,none⟩=some (ct h''.mod)∧w'.cell? ⟨b',off'+i*7+3,none⟩=some (ct h''.name)∧w'.cell? ⟨b',off'+i*7+4,none⟩=some (ci h''.vt)∧w'.cell? ⟨b',off'+i*7+5,none⟩=some (.int .u64 h''.vb)∧w'.cell? ⟨b',off'+i*7+6,none⟩=some (.slice ao'' k''.len cap'')) (go_keep) (first | (go_at_call 115;refine ke.mono ?_;rintro e w3 ⟨rfl,f3⟩;have f2:=hfr.same ((Fr.drew (fun _=>False) wr).same f3);have z0:=((Fr.drew (fun _=>False) wr).same f3).cellN d0;have z1:=((Fr.drew (fun _=>False) wr).same f3).cellN d1;have z2:=((Fr.drew (fun _=>False) wr).same f3).cellN d2;have z3:=((Fr.drew (fun _=>False) wr).same f3).cellN d3;have z4:=((Fr.drew (fun _=>False) wr).same f3).cellN d4;have z5:=((Fr.drew (fun _=>False) wr).same f3).cellN d5;have z6:=((Fr.drew (fun _=>False) wr).same f3).cellN d6;have y0:=((Fr.drew (fun _=>False) wr).same f3).cellN c0;have y1:=((Fr.drew (fun _=>False) wr).same f3).cellN c1;have y2:=((Fr.drew (fun _=>False) wr).same f3).cellN c2;have y3:=((Fr.drew (fun _=>False) wr).same f3).cellN c3;have y4:=((Fr.drew (fun _=>False) wr).same f3).cellN c4;have y5:=((Fr.drew (fun _=>False) wr).same f3).cellN c5;have y6:=((Fr.drew (fun _=>False) wr).same f3).cellN c6))
        all_goals
         go_wp2_with fail
         go_ret
         exact ⟨ret_b hres,f2⟩
       ·clear hdkH
        go_wp2_with fail
        go_region_held3 (fun w'=>w'.cell? ⟨b,off+i*7,none⟩=some (ci h'.kind)∧w'.cell? ⟨b,off+i*7+1,none⟩=some (ci h'.op)∧w'.cell? ⟨b,off+i*7+2,none⟩=some (ct h'.mod)∧w'.cell? ⟨b,off+i*7+3,none⟩=some (ct h'.name)∧w'.cell? ⟨b,off+i*7+4,none⟩=some (ci h'.vt)∧w'.cell? ⟨b,off+i*7+5,none⟩=some (.int .u64 h'.vb)∧w'.cell? ⟨b,off+i*7+6,none⟩=some (.slice ao' k'.len cap')∧w'.cell? ⟨b',off'+i*7,none⟩=some (ci h''.kind)∧w'.cell? ⟨b',off'+i*7+1,none⟩=some (ci h''.op)∧w'.cell? ⟨b',off'+i*7+2,none⟩=some (ct h''.mod)∧w'.cell? ⟨b',off'+i*7+3,none⟩=some (ct h''.name)∧w'.cell? ⟨b',off'+i*7+4,none⟩=some (ci h''.vt)∧w'.cell? ⟨b',off'+i*7+5,none⟩=some (.int .u64 h''.vb)∧w'.cell? ⟨b',off'+i*7+6,none⟩=some (.slice ao'' k''.len cap'')) (go_keep) (first | (go_at_call 115;refine ke.mono ?_;rintro e w3 ⟨rfl,f3⟩;have f2:=hfr.same ((Fr.drew (fun _=>False) wr).same f3);have z0:=((Fr.drew (fun _=>False) wr).same f3).cellN d0;have z1:=((Fr.drew (fun _=>False) wr).same f3).cellN d1;have z2:=((Fr.drew (fun _=>False) wr).same f3).cellN d2;have z3:=((Fr.drew (fun _=>False) wr).same f3).cellN d3;have z4:=((Fr.drew (fun _=>False) wr).same f3).cellN d4;have z5:=((Fr.drew (fun _=>False) wr).same f3).cellN d5;have z6:=((Fr.drew (fun _=>False) wr).same f3).cellN d6;have y0:=((Fr.drew (fun _=>False) wr).same f3).cellN c0;have y1:=((Fr.drew (fun _=>False) wr).same f3).cellN c1;have y2:=((Fr.drew (fun _=>False) wr).same f3).cellN c2;have y3:=((Fr.drew (fun _=>False) wr).same f3).cellN c3;have y4:=((Fr.drew (fun _=>False) wr).same f3).cellN c4;have y5:=((Fr.drew (fun _=>False) wr).same f3).cellN c5;have y6:=((Fr.drew (fun _=>False) wr).same f3).cellN c6))
        all_goals
         go_wp2_with fail
         go_roundg r'.len
         case measure =>
          have:gk=r'.len+1:=hgkH
          omega
         case rel =>
          refine ⟨i+1,r',r'',by go_num,?_,?_,by omega,hn1,hn2,hdk2,rfl,f2⟩
          ·have:i+(r'.len+1)=k.len:=hl1H
           omega
          ·have:i+(r''.len+1)=k2.len:=hl2H
           omega
 ·have hne:((k.len:Int) != (k2.len:Int))=true:=by rw [bne_iff_ne];omega
  have hres:Hidden (false=R):=by
   rw [←(show _=R from hRH)]
   show false=decide (k=k2)
   symm
   simp only [decide_eq_false_iff_not]
   intro hc
   exact hlen (by rw [hc])
  clear hlen
  go_enter Tryz.func71,Tryz.ntmps71
  go_wp2_with fail
  go_ret
  exact ⟨ret_b hres,Fr.refl _ _⟩
theorem sameL_any (k:Exs):SameL k:=by
 have:∀(n:Nat) (k:Exs),k.size<n→SameL k:=by
  intro n
  induction n with
  | zero=>intro k hk;omega
  | succ n ih=>intro k hk;exact sameL_step k (fun h' k' hk'=>sameX_step h' k' (ih k' (by omega)))
 exact this (k.size+1) k (by omega)
end Go.Proofs.YteijjaabngkbjaaGreatDoor.X
namespace Go.Proofs.YteijjaabngkbjaaGreatDoor
open Go.RowKit
structure Grow (P:Program) (ops:Array Oper) (C:World→Prop) (Q:Act→Prop) (l:List Oper) (a:Act):Prop where
 run:wpQuiet P ops C Q l a
theorem wp_region_grow {P:Program} {id:Nat} {Q:Exit→Act→World→Prop} {a:Act} {w:World} {l:List Oper} (hm:P.follows .mixedOrders=true) (hB:Region.lexB .any l.toArray=true)
 (h:Grow P l.toArray (fun w'=>Fr (fun _=>False) w w') (fun a'=>∀w',Fr (fun _=>False) w w'→Q .normal a' w') l a):(Code.region id l.toArray true).wp P Q a w :=
 wp_region_quiet (C:=fun w'=>Fr (fun _=>False) w w') hm hB (Fr.drew _ w) (by simpa using h.run)
theorem grow_nil {P:Program} {ops:Array Oper} {C:World→Prop} {Q:Act→Prop} {a:Act} (h:Q a):Grow P ops C Q [] a:=⟨h⟩
theorem grow_op {P:Program} {ops:Array Oper} {C:World→Prop} {Q:Act→Prop} {o:Oper} {rest:List Oper} {a:Act} {v:Value} (hw:Region.wanted o (yielded ops a.tmps)=true)
 (h1:∀w',C w'→o.quietAt P a C w' v) (h2:∀a',a'=a.put o.dst v→Grow P ops C Q rest a'):Grow P ops C Q (o::rest) a:=by
 refine ⟨?_⟩
 unfold wpQuiet
 rw [if_pos hw]
 exact ⟨v,h1,(h2 _ rfl).run⟩
theorem grow_no {P:Program} {ops:Array Oper} {C:World→Prop} {Q:Act→Prop} {o:Oper} {rest:List Oper} {a:Act} (hw:Region.wanted o (yielded ops a.tmps)=false)
 (h2:∀a',a'=a.put o.dst undef→Grow P ops C Q rest a'):Grow P ops C Q (o::rest) a:=by
 refine ⟨?_⟩
 unfold wpQuiet
 rw [hw,if_neg (by decide)]
 exact (h2 _ rfl).run
theorem wanted_none {o:Oper} {y:Nat→Option Bool} (h:o.guard=none):Region.wanted o y=true:=by simp [Region.wanted,h]
theorem calls_grow {P:Program} {f:FuncId} {args:Array Value} {w w':World} {v:Value} (hw:Fr (fun _=>False) w w') (h:Calls P f args w' fun e w''=>e = .returned v∧Fr (fun _=>False) w' w'') :
 Calls P f args w' fun e w''=>e = .returned v∧Fr (fun _=>False) w w'':=h.mono fun _ _ ⟨he,hf⟩=>⟨he,hw.same hf⟩
end Go.Proofs.YteijjaabngkbjaaGreatDoor
