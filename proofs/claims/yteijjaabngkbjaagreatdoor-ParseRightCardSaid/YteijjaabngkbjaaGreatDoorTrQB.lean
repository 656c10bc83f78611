/- PyI PxA TrB PzA PsR PsU PsZ PzB PzC PwP TrQ -/
import Derived.Test.YteijjaabngkbjaaGreatDoorPyHB
import Derived.Test.YteijjaabngkbjaaGreatDoorPsE2B
import Derived.Test.YteijjaabngkbjaaGreatDoorTrTAll
import Derived.Test.YteijjaabngkbjaaGreatDoorTrLAll
import Derived.Test.YteijjaabngkbjaaGreatDoorNyAB
import Derived.Deep.Slices
import Derived.Deep.Strs
import Derived.ChangeSlices
import Derived.ChangeArms
import Derived.DataReads
import Derived.Test.YteijjaabngkbjaaGreatDoorPsWB
import Derived.Test.YteijjaabngkbjaaGreatDoorTrF
import Derived.Test.YteijjaabngkbjaaGreatDoorLxAll
set_option maxRecDepth 100000
set_option maxHeartbeats 40000000
set_option linter.unusedVariables false
set_option linter.unusedSimpArgs false
set_option linter.unusedSectionVars false
namespace Go.Proofs.YteijjaabngkbjaaGreatDoor
open Go.RowKit Te
theorem decl_3t (name:Bs) (ty:Int) (hty:ty=0∨ty=1∨ty=2∨ty=3) (acc T:Bs) (w0 w:World) (B b:Nat) (ht:F.Tab w0) (hw:PW w0 B b acc w) (ao1 ao2 ao3:Option Addr) (n2 cap1 cap2 cap3:Nat) (ps:List Pa) (bo:Sts) (hp:PaL w0 ao1 cap1 ps)
 (hpt:∀p∈ps,p.type=0∨p.type=1∨p.type=2∨p.type=3) (hpn:∀p∈ps,p.name.length≤1000000) (h8:ps.length≤8) (hB:BlkW bo 1) (hbo:StL w0 ao3 cap3 bo)
 (hT:Hidden (acc++([101,120,112,111,114,116,32]++[102,110,32]++name++[40]++paT ps++[41]++tyT ty++[32,123,10])++stT txS bo 1++[125,10]=T)) (hl:T.length≤140737488355328) :
 Calls Tryz.prog 38 #[bp b,.agg #[ci 3,.bool true,ct name,ci ty,.slice ao1 ps.length cap1,.slice ao2 n2 cap2,.slice ao3 bo.len cap3]] w fun e w'=>e = .returned (.tuple #[])∧PW w0 B b T w':=by
 have f0:=Fr.alloc (fun _=>False) w (deO 3 true name ty (.slice ao1 ps.length cap1) (.slice ao2 n2 cap2) (.slice ao3 bo.len cap3))
 have hbx:Hidden ((w.alloc (deO 3 true name ty (.slice ao1 ps.length cap1) (.slice ao2 n2 cap2) (.slice ao3 bo.len cap3))).heap[w.heap.size]?=some (deO 3 true name ty (.slice ao1 ps.length cap1) (.slice ao2 n2 cap2) (.slice ao3 bo.len cap3))):=alloc_new _ _
 have g0:=hw.fr.same f0
 have hne:=ne_pbld hw.bld
 have hlen:(paT ps).length≤140737488355328:=by
  have:=congrArg List.length (show _=T from hT)
  simp only [List.length_append] at this
  omega
 have m3:cap3≤9223372036854775807:=by have:=hbo.2.1;unfold maxLen at this;omega
 have m3':=hbo.1
 have m1:cap1≤9223372036854775807:=by have:=hp.2.1;unfold maxLen at this;omega
 have m1':=hp.1
 have kp:=fun (w1:World) (f1:Fr (fun _=>False) (w.alloc (deO 3 true name ty (.slice ao1 ps.length cap1) (.slice ao2 n2 cap2) (.slice ao3 bo.len cap3))) w1)=>params_w ps ao1 cap1 w1 (hp.keep (g0.same f1)) hpt hpn h8 (paT ps) (show Hidden (paT ps=paT ps) from rfl) hlen
 generalize paT ps=E at kp hT hlen
 have kt:=fun (w1:World)=>type_is ty hty w1
 generalize hty9:tyT ty=Y at kt hT
 obtain ⟨T1,hT1'⟩:∃T1,acc++[[101,120,112,111,114,116,32],[102,110,32],name,[40],E,[41],Y,[32,123]].flatten++[10]=T1:=⟨_,rfl⟩
 have rT1:Hidden (T1++(stT txS bo 1++[125,10])=T):=by
  show _=T
  rw [←(show _=T from hT),←hT1']
  simp
 have hT1:Hidden (acc++[[101,120,112,111,114,116,32],[102,110,32],name,[40],E,[41],Y,[32,123]].flatten++[10]=T1):=hT1'
 obtain ⟨T2,hT2'⟩:∃T2,T1++stT txS bo 1=T2:=⟨_,rfl⟩
 have rT2:Hidden (T2++[125,10]=T):=by
  show _=T
  rw [←(show _=T from rT1),←hT2']
  simp
 have hT2:Hidden (T1++stT txS bo 1=T2):=hT2'
 have lT1:=app_le (show _=T from rT1) hl
 have lT2:=app_le (show _=T from rT2) hl
 have kl:=fun (w1:World) (f1:Fr (fun _=>False) (w.alloc (deO 3 true name ty (.slice ao1 ps.length cap1) (.slice ao2 n2 cap2) (.slice ao3 bo.len cap3))) w1)=>line_zero [[101,120,112,111,114,116,32],[102,110,32],name,[40],E,[41],Y,[32,123]] acc T1 w0 w1 B b (hw.quiet (f0.same f1)) (by simp) hT1 lT1
 have hd0:Fr (fun _=>False) (w.alloc (deO 3 true name ty (.slice ao1 ps.length cap1) (.slice ao2 n2 cap2) (.slice ao3 bo.len cap3))) (w.alloc (deO 3 true name ty (.slice ao1 ps.length cap1) (.slice ao2 n2 cap2) (.slice ao3 bo.len cap3))).drew:=Fr.drew _ _
 obtain ⟨c0,c1,c2,c3,c4,c5,c6⟩:=ex_box hbx
 clear hT hty9 hT1' hT2'
 go_enter Tryz.func38,Tryz.ntmps38
 go_wp2_with fail
 go_region_held3 (fun w'=>w'.cell? ⟨w.heap.size,2,none⟩=some (ct name)∧w'.cell? ⟨w.heap.size,3,none⟩=some (ci ty)∧w'.cell? ⟨w.heap.size,4,none⟩=some (.slice ao1 ps.length cap1)) (first | (refine ⟨by assumption,by assumption,by assumption⟩) | go_keep) (first
  | (go_at_call 80;refine (kt _).mono ?_;rintro e wt ⟨rfl,hwt⟩;have hwt:=hwt.symm;subst hwt)
  | (go_at_call 81;refine (kp _ hd0).mono ?_;rintro e wa ⟨rfl,fa⟩;have ga:=hd0.same fa;have q2:=ga.cellN c2;have q3:=ga.cellN c3;have q4:=ga.cellN c4)
  | (go_at_call 37;refine (kl wa (hd0.same fa)).mono ?_;rintro e wz ⟨rfl,p2,g2⟩;obtain ⟨e0',e1',e2',e3',e4',e5',e6'⟩:=ex_box (bs_keep g2 ((hd0.same fa).heap hbx (fun f=>f)) hne (by decide))))
 all_goals
  have kb:=hB 1 rfl ao3 cap3 w0 wz B b T1 T2 hbo ht p2 hT2 lT2
  go_wp2_with fail
  go_at_call 82
  refine kb.mono ?_
  rintro e w3 ⟨rfl,p3,g3⟩
  have kz:=line_zero [[125]] T2 T w0 w3 B b p3 (by simp) (by rw [←(show _=T from rT2)];simp) hl
  go_wp2_with fail
  go_at_call 37
  refine kz.mono ?_
  rintro e w4 ⟨rfl,p4,g4⟩
  go_wp2_with fail
  go_end0
  exact ⟨rfl,p4⟩
theorem decl_3f (name:Bs) (ty:Int) (hty:ty=0∨ty=1∨ty=2∨ty=3) (acc T:Bs) (w0 w:World) (B b:Nat) (ht:F.Tab w0) (hw:PW w0 B b acc w) (ao1 ao2 ao3:Option Addr) (n2 cap1 cap2 cap3:Nat) (ps:List Pa) (bo:Sts) (hp:PaL w0 ao1 cap1 ps)
 (hpt:∀p∈ps,p.type=0∨p.type=1∨p.type=2∨p.type=3) (hpn:∀p∈ps,p.name.length≤1000000) (h8:ps.length≤8) (hB:BlkW bo 1) (hbo:StL w0 ao3 cap3 bo)
 (hT:Hidden (acc++([]++[102,110,32]++name++[40]++paT ps++[41]++tyT ty++[32,123,10])++stT txS bo 1++[125,10]=T)) (hl:T.length≤140737488355328) :
 Calls Tryz.prog 38 #[bp b,.agg #[ci 3,.bool false,ct name,ci ty,.slice ao1 ps.length cap1,.slice ao2 n2 cap2,.slice ao3 bo.len cap3]] w fun e w'=>e = .returned (.tuple #[])∧PW w0 B b T w':=by
 have f0:=Fr.alloc (fun _=>False) w (deO 3 false name ty (.slice ao1 ps.length cap1) (.slice ao2 n2 cap2) (.slice ao3 bo.len cap3))
 have hbx:Hidden ((w.alloc (deO 3 false name ty (.slice ao1 ps.length cap1) (.slice ao2 n2 cap2) (.slice ao3 bo.len cap3))).heap[w.heap.size]?=some (deO 3 false name ty (.slice ao1 ps.length cap1) (.slice ao2 n2 cap2) (.slice ao3 bo.len cap3))):=alloc_new _ _
 have g0:=hw.fr.same f0
 have hne:=ne_pbld hw.bld
 have hlen:(paT ps).length≤140737488355328:=by
  have:=congrArg List.length (show _=T from hT)
  simp only [List.length_append] at this
  omega
 have m3:cap3≤9223372036854775807:=by have:=hbo.2.1;unfold maxLen at this;omega
 have m3':=hbo.1
 have m1:cap1≤9223372036854775807:=by have:=hp.2.1;unfold maxLen at this;omega
 have m1':=hp.1
 have kp:=fun (w1:World) (f1:Fr (fun _=>False) (w.alloc (deO 3 false name ty (.slice ao1 ps.length cap1) (.slice ao2 n2 cap2) (.slice ao3 bo.len cap3))) w1)=>params_w ps ao1 cap1 w1 (hp.keep (g0.same f1)) hpt hpn h8 (paT ps) (show Hidden (paT ps=paT ps) from rfl) hlen
 generalize paT ps=E at kp hT hlen
 have kt:=fun (w1:World)=>type_is ty hty w1
 generalize hty9:tyT ty=Y at kt hT
 obtain ⟨T1,hT1'⟩:∃T1,acc++[[],[102,110,32],name,[40],E,[41],Y,[32,123]].flatten++[10]=T1:=⟨_,rfl⟩
 have rT1:Hidden (T1++(stT txS bo 1++[125,10])=T):=by
  show _=T
  rw [←(show _=T from hT),←hT1']
  simp
 have hT1:Hidden (acc++[[],[102,110,32],name,[40],E,[41],Y,[32,123]].flatten++[10]=T1):=hT1'
 obtain ⟨T2,hT2'⟩:∃T2,T1++stT txS bo 1=T2:=⟨_,rfl⟩
 have rT2:Hidden (T2++[125,10]=T):=by
  show _=T
  rw [←(show _=T from rT1),←hT2']
  simp
 have hT2:Hidden (T1++stT txS bo 1=T2):=hT2'
 have lT1:=app_le (show _=T from rT1) hl
 have lT2:=app_le (show _=T from rT2) hl
 have kl:=fun (w1:World) (f1:Fr (fun _=>False) (w.alloc (deO 3 false name ty (.slice ao1 ps.length cap1) (.slice ao2 n2 cap2) (.slice ao3 bo.len cap3))) w1)=>line_zero [[],[102,110,32],name,[40],E,[41],Y,[32,123]] acc T1 w0 w1 B b (hw.quiet (f0.same f1)) (by simp) hT1 lT1
 have hd0:Fr (fun _=>False) (w.alloc (deO 3 false name ty (.slice ao1 ps.length cap1) (.slice ao2 n2 cap2) (.slice ao3 bo.len cap3))) (w.alloc (deO 3 false name ty (.slice ao1 ps.length cap1) (.slice ao2 n2 cap2) (.slice ao3 bo.len cap3))).drew:=Fr.drew _ _
 obtain ⟨c0,c1,c2,c3,c4,c5,c6⟩:=ex_box hbx
 clear hT hty9 hT1' hT2'
 go_enter Tryz.func38,Tryz.ntmps38
 go_wp2_with fail
 go_region_held3 (fun w'=>w'.cell? ⟨w.heap.size,2,none⟩=some (ct name)∧w'.cell? ⟨w.heap.size,3,none⟩=some (ci ty)∧w'.cell? ⟨w.heap.size,4,none⟩=some (.slice ao1 ps.length cap1)) (first | (refine ⟨by assumption,by assumption,by assumption⟩) | go_keep) (first
  | (go_at_call 80;refine (kt _).mono ?_;rintro e wt ⟨rfl,hwt⟩;have hwt:=hwt.symm;subst hwt)
  | (go_at_call 81;refine (kp _ hd0).mono ?_;rintro e wa ⟨rfl,fa⟩;have ga:=hd0.same fa;have q2:=ga.cellN c2;have q3:=ga.cellN c3;have q4:=ga.cellN c4)
  | (go_at_call 37;refine (kl wa (hd0.same fa)).mono ?_;rintro e wz ⟨rfl,p2,g2⟩;obtain ⟨e0',e1',e2',e3',e4',e5',e6'⟩:=ex_box (bs_keep g2 ((hd0.same fa).heap hbx (fun f=>f)) hne (by decide))))
 all_goals
  have kb:=hB 1 rfl ao3 cap3 w0 wz B b T1 T2 hbo ht p2 hT2 lT2
  go_wp2_with fail
  go_at_call 82
  refine kb.mono ?_
  rintro e w3 ⟨rfl,p3,g3⟩
  have kz:=line_zero [[125]] T2 T w0 w3 B b p3 (by simp) (by rw [←(show _=T from rT2)];simp) hl
  go_wp2_with fail
  go_at_call 37
  refine kz.mono ?_
  rintro e w4 ⟨rfl,p4,g4⟩
  go_wp2_with fail
  go_end0
  exact ⟨rfl,p4⟩
theorem isTy_c {t:Int} (h:isTy t=true):t=0∨t=1∨t=2∨t=3:=by
 simp only [isTy,Bool.or_eq_true,beq_iff_eq] at h
 omega
theorem rn_len {x:Bs} (h:rnS x=0):x.length≤32:=by
 unfold rnS N.rightS at h
 split at h
 ·split at h
  ·exact absurd h (by decide)
  ·omega
 ·exact absurd h (by decide)
theorem decl_w (d:De) (he:errD rnS cnS d=0) (hO:OkD d):DeclW d:=by
 intro pv ev bv w0 w B b acc T hd ht hw hT hl
 obtain ⟨ao1,cap1,ao2,cap2,ao3,cap3,rfl,rfl,rfl,hp,hx,hb⟩:=hd
 unfold errD at he
 obtain ⟨a1,a2⟩:=Pz.orE_0 he
 obtain ⟨a3,a4⟩:=Pz.orE_0 a2
 obtain ⟨a5,a6⟩:=Pz.orE_0 a4
 obtain ⟨a7,a8⟩:=Pz.orE_0 a6
 obtain ⟨a9,b1⟩:=Pz.orE_0 a8
 obtain ⟨b2,b3⟩:=Pz.orE_0 b1
 have hdd:dD d≤32:=by
  apply Classical.byContradiction
  intro hc
  rw [if_pos (by omega)] at a1
  exact absurd a1 (by decide)
 have hfit:=Pz.ifx (c:=fitsD d=true) a3 (by decide)
 have h8:d.params.length≤8:=by
  apply Classical.byContradiction
  intro hc
  rw [if_pos (by omega)] at a7
  exact absurd a7 (by decide)
 have hT:acc++deT txS d=T:=hT
 obtain ⟨k,ex,name,ty,ps,e,bo⟩:=d
 obtain ⟨o1,o2,o3,o4,o5,o6⟩:=hO
 simp only at *
 unfold fitsD at hfit
 simp only at hfit
 by_cases k1:k=1
 ·subst k1
  rw [if_pos rfl,Bool.and_eq_true,decide_eq_true_eq] at hfit
  obtain ⟨x,kx,b0,off,aok,capk,rfl,rfl,q1,q2,q3,q4,hk,c0,c1,c2,c3,c4,c5,c6⟩:=one_ex hx o5 b2 hfit.2.1
  cases ex
  ·exact decl_1f name ty (isTy_c hfit.1) acc T w0 w B b ht hw ao1 ao3 ps.length bo.len cap1 cap3 x kx b0 off cap2 aok capk q1 q2 q3 q4 hk c0 c1 c2 c3 c4 c5 c6 (by show _=T;rw [←hT];simp [deT,exT,txF,txA_one]) hl
  ·exact decl_1t name ty (isTy_c hfit.1) acc T w0 w B b ht hw ao1 ao3 ps.length bo.len cap1 cap3 x kx b0 off cap2 aok capk q1 q2 q3 q4 hk c0 c1 c2 c3 c4 c5 c6 (by show _=T;rw [←hT];simp [deT,exT,txF,txA_one]) hl
 rw [if_neg k1] at hfit
 by_cases k2:k=2
 ·subst k2
  rw [if_pos rfl,Bool.and_eq_true,Bool.and_eq_true,decide_eq_true_eq] at hfit
  obtain ⟨x,kx,b0,off,aok,capk,rfl,rfl,q1,q2,q3,q4,hk,c0,c1,c2,c3,c4,c5,c6⟩:=one_ex hx o5 b2 hfit.2.1
  obtain rfl:ex=false:=by simpa using hfit.1.1
  exact decl_2f name ty (isTy_c hfit.1.2) acc T w0 w B b ht hw ao1 ao3 ps.length bo.len cap1 cap3 x kx b0 off cap2 aok capk q1 q2 q3 q4 hk c0 c1 c2 c3 c4 c5 c6 (by show _=T;rw [←hT];simp [deT,exT,txF,txA_one]) hl
 rw [if_neg k2] at hfit
 by_cases k3:k=3
 ·subst k3
  rw [if_pos rfl,Bool.and_eq_true,decide_eq_true_eq] at hfit
  have hty:ty=0∨ty=1∨ty=2∨ty=3:=by
   have:=hfit.1
   rw [Bool.or_eq_true] at this
   rcases this with h | h
   ·exact Or.inl (by simpa using h)
   ·exact isTy_c h
  have hB:BlkW bo 1:=blk_any bo 1 1 (by decide) b3 o6 (by have:=(Pz.dD_of hdd).2 rfl;simpa using this)
  have hpa:∀p∈ps,rnS p.name=0∧isTy p.type=true:=Pz.errP_of ps a9
  cases ex
  ·exact decl_3f name ty hty acc T w0 w B b ht hw ao1 ao2 ao3 e.len cap1 cap2 cap3 ps bo hp (fun p hp=>isTy_c (hpa p hp).2) (fun p hp=>by have:=rn_len (hpa p hp).1;omega) h8 hB hb (by show _=T;rw [←hT];simp [deT,exT,txF,txA_one]) hl
  ·exact decl_3t name ty hty acc T w0 w B b ht hw ao1 ao2 ao3 e.len cap1 cap2 cap3 ps bo hp (fun p hp=>isTy_c (hpa p hp).2) (fun p hp=>by have:=rn_len (hpa p hp).1;omega) h8 hB hb (by show _=T;rw [←hT];simp [deT,exT,txF,txA_one]) hl
 rw [if_neg k3] at hfit
 cases hfit
end Go.Proofs.YteijjaabngkbjaaGreatDoor
namespace Go.Proofs.YteijjaabngkbjaaGreatDoor.F
open Fl
theorem hexdig_hx (d:Nat) (h:d<16):Lx.hxB (hexdig d)=true:=by
 have:d=0∨d=1∨d=2∨d=3∨d=4∨d=5∨d=6∨d=7∨d=8∨d=9∨d=10∨d=11∨d=12∨d=13∨d=14∨d=15:=by omega
 rcases this with rfl | rfl | rfl | rfl | rfl | rfl | rfl | rfl | rfl | rfl | rfl | rfl | rfl | rfl | rfl | rfl<;>decide
theorem hexF_hx (k:Nat):∀f,f<4503599627370496→∀x∈hexF k f,Lx.hxB x=true:=by
 induction k with
 | zero=>intro f _ x hx;simp [hexF] at hx
 | succ k ih =>
   intro f hf x hx
   unfold hexF at hx
   split at hx
   ·simp at hx
   ·rcases List.mem_cons.1 hx with rfl | hx
    ·exact hexdig_hx _ (by omega)
    ·exact ih _ (by omega) x hx
theorem fracL_hx (F:Nat) (hF:F<4503599627370496):∀x∈fracL F,Lx.hxB x=true:=by
 intro x hx
 unfold fracL at hx
 split at hx
 ·simp at hx
 ·rcases List.mem_cons.1 hx with rfl | hx
  ·decide
  ·exact hexF_hx 13 F hF x hx
theorem dec_dgt (n:Nat):∀x∈Lib.decDigits n,Lx.dgt x=true:=by
 have h:=(D.dec_facts n).1
 rw [List.all_eq_true] at h
 exact h
theorem dgt_hx {x:UInt8} (h:Lx.dgt x=true):Lx.hxB x=true:=by simp [Lx.hxB,h]
theorem expL_hx (e:Int):∀x∈expL e,Lx.hxB x=true:=by
 intro x hx
 unfold expL at hx
 split at hx
 ·rcases List.mem_cons.1 hx with rfl | hx
  ·decide
  ·exact dgt_hx (dec_dgt _ x hx)
 ·rcases List.mem_cons.1 hx with rfl | hx
  ·decide
  ·exact dgt_hx (dec_dgt _ x hx)
theorem text_hex (a:Int) (h0:0≤a) (h1:a<9223372036854775808) (hc:canonS a=a) (n1:a≠9218868437227405312) (n2:a≠9221120237041090561):∃z,textS a=48::120::z∧∀c∈z,Lx.hxB c=true:=by
 have hp:partN a=false:=by
  unfold partN
  split
  ·rfl
  ·exact decide_eq_false (by omega)
 have hn:nan a=false:=by
  cases h:nan a
  ·rfl
  ·simp [canonS,h] at hc;exact absurd hc.symm n2
 have ht:textS a=sizeL (classS a) (partM a).toNat (partE a):=by simp [textS,hp]
 have hm:a % 9223372036854775808=a:=by omega
 rw [ht]
 rcases class_cases a with e | e | e | e | e
 ·have:=(class_nan a).1 e;rw [hn] at this;cases this
 ·exfalso
  unfold classS at e
  rw [hm] at e
  revert e
  repeat' split
  all_goals omega
 ·rw [e]
  exact ⟨[48,112,43,48],rfl,by decide⟩
 all_goals
  have hg:classS a=4∨classS a=5:=by omega
  rw [sizeL_great a hg]
  refine ⟨49::(fracL (nrm (partM a).toNat % 4503599627370496)++112::expL (partE a - shf (partM a).toNat+52)),rfl,?_⟩
  intro c hc
  rcases List.mem_cons.1 hc with rfl | hc
  ·decide
  ·rcases List.mem_append.1 hc with hc | hc
   ·exact fracL_hx _ (Nat.mod_lt _ (by decide)) c hc
   ·rcases List.mem_cons.1 hc with rfl | hc
    ·decide
    ·exact expL_hx _ c hc
end Go.Proofs.YteijjaabngkbjaaGreatDoor.F
namespace Go.Proofs.YteijjaabngkbjaaGreatDoor
open Go.RowKit Lx Te
theorem dec_0:Go.Lib.decDigits 0=[48]:=by unfold Go.Lib.decDigits;simp
theorem nat_dec (v:Int) (h0:0≤v) (h1:v≤9223372036854775807):I.natS (Go.Lib.itoa v)=(v,0,0):=by
 obtain ⟨a1,a2,a3,a4⟩:=D.dec_facts v.toNat
 have e:Go.Lib.itoa v=Go.Lib.decDigits v.toNat:=by unfold Go.Lib.itoa;rw [if_neg (by omega)]
 rw [e]
 have hr:I.runD (Go.Lib.decDigits v.toNat)=(Go.Lib.decDigits v.toNat).length:=(I.runD_all _).2 a1
 have hv:I.numD (Go.Lib.decDigits v.toNat)=v.toNat:=a2
 unfold I.natS I.amtS
 rw [if_neg (by omega),if_neg (by omega),if_neg,if_neg (by omega),hv]
 ·simp;omega
 ·rintro ⟨g1,g2⟩
  by_cases g:1≤v.toNat
  ·obtain ⟨c,r,e1,e2,_⟩:=a4 g
   rw [e1] at g2
   simp at g2
   exact e2 g2
  ·have:v.toNat=0:=by omega
   rw [this,dec_0] at g1
   exact absurd g1 (by decide)
theorem noughts_dec (n:Nat):noughts (Go.Lib.decDigits n)=Go.Lib.decDigits n:=by
 obtain ⟨_,_,_,a4⟩:=D.dec_facts n
 by_cases g:1≤n
 ·obtain ⟨c,r,e1,e2,_⟩:=a4 g
  rw [e1]
  cases r with
  | nil=>rfl
  | cons d r=>rw [noughts,if_neg e2]
 ·have:n=0:=by omega
  subst this
  rw [dec_0]
  rfl
theorem rn_nm (x:Bs) (h:rnS x=0):(∃c r,x=c::r∧ltr c=true)∧(∀c∈x,nmB c=true)∧x ∉ wordsL∧valS 1 x=(0,0,0):=by
 unfold rnS N.rightS at h
 split at h
 ·rename_i hs
  split at h
  ·cases h
  ·rename_i hl
   split at h
   ·cases h
   ·rename_i hw
    cases x with
    | nil=>simp [N.speltS] at hs
    | cons c r =>
      rw [N.spelt_cons (c::r) c rfl,Bool.and_eq_true] at hs
      have hc:ltr c=true:=by
       have:=hs.1
       simp only [N.letB,ltr,Bool.or_eq_true,Bool.and_eq_true,decide_eq_true_eq,beq_iff_eq] at this ⊢
       exact this
      refine ⟨⟨c,r,rfl,hc⟩,?_,hw,?_⟩
      ·intro d hd
       have:=(List.all_eq_true.1 hs.2) d hd
       simp only [N.ld,N.letB,N.digB,nmB,dgt,ltr,Bool.or_eq_true,Bool.and_eq_true,decide_eq_true_eq,beq_iff_eq] at this ⊢
       exact this.symm
      ·unfold valS
       rw [if_pos rfl,if_neg hl]
 ·cases h
theorem tx_int (vb:Int) (h0:0≤vb):txS 1 vb=Go.Lib.decDigits vb.toNat:=by
 unfold txS
 rw [if_pos rfl]
 unfold Go.Lib.itoa
 rw [if_neg (by omega)]
theorem tx_flo (vb:Int):txS 2 vb=F.textS vb:=by
 unfold txS
 rw [if_neg (by decide),if_pos rfl]
theorem lawI (vb:Int) (h0:0≤vb):∃c r,txS 1 vb=c::r∧dgt c=true:=by
 rw [tx_int vb h0]
 have h:=F.dec_dgt vb.toNat
 have h3:=(D.dec_facts vb.toNat).2.2.1
 cases e:Go.Lib.decDigits vb.toNat with
 | nil=>rw [e] at h3;simp at h3
 | cons c r=>exact ⟨c,r,rfl,h c (by rw [e];simp)⟩
theorem lawT:Pz.LawT rnS cnS txS wordsL valS where
 nm:=rn_nm
 wd:=fun x=>rfl
 mrk:=fun x=>rfl
 int:=fun vb h0 h1=>by
  have h3:=(D.dec_facts vb.toNat).2.2.1
  refine ⟨?_,?_,?_⟩
  ·rw [tx_int vb h0];intro e;rw [e] at h3;simp at h3
  ·rw [tx_int vb h0];exact F.dec_dgt _
  ·have hn:=nat_dec vb h0 (by omega)
   have e:Go.Lib.itoa vb=Go.Lib.decDigits vb.toNat:=by unfold Go.Lib.itoa;rw [if_neg (by omega)]
   rw [e] at hn
   rw [tx_int vb h0]
   unfold valS
   rw [if_neg (by decide),if_pos rfl,noughts_dec,hn]
   rfl
 flo:=fun vb h0 hl n1 n2=>by
  simp only [litOk] at hl
  rw [if_neg (by decide),if_pos trivial] at hl
  simp only [Bool.and_eq_true,decide_eq_true_eq] at hl
  obtain ⟨z,e,hz⟩:=F.text_hex vb h0 hl.1 hl.2 n1 n2
  have hp:=F.parse_text vb ⟨h0,by omega⟩
  refine ⟨z,by rw [tx_flo,e],hz,?_⟩
  rw [tx_flo]
  unfold valS
  rw [if_neg (by decide),if_neg (by decide),if_pos rfl,if_pos (by rw [e];rfl),hp,if_pos rfl]
  simp only [Prod.mk.injEq,true_and,and_true]
  exact hl.2
 inf:=by rw [tx_flo];decide +kernel
 nan:=by rw [tx_flo];decide +kernel
 fal:=rfl
 tru:=rfl
 wi:=by decide
 wn:=by decide
 wf:=by decide
 wt:=by decide
 wI:=by decide
 wF:=by decide
 wp:=by decide
end Go.Proofs.YteijjaabngkbjaaGreatDoor
namespace Go.Proofs.YteijjaabngkbjaaGreatDoor
open Go.RowKit Te
theorem textS_len (a:Int) (ha:F.Fl.U a):(F.textS a).length≤3001:=by
 obtain ⟨h1,h2,h3⟩:=F.parts_bounds a ha
 have:=F.sizeL_len (F.Fl.classS a) (F.partM a).toNat (F.partE a) h1 h2 h3
 unfold F.textS
 rw [List.length_append]
 split<;>simp<;>omega
theorem txS_len (vt vb:Int) (h0:0≤vb) (h1:vb<18446744073709551616) (h2:vt=1→vb<9223372036854775808):(txS vt vb).length≤3001:=by
 unfold txS
 split
 ·have hv:=h2 (by assumption)
  have:=(D.itoa_len vb ⟨by omega,by omega⟩).1
  omega
 split
 ·exact textS_len vb ⟨h0,h1⟩
 split<;>simp
end Go.Proofs.YteijjaabngkbjaaGreatDoor
namespace Go.Proofs.YteijjaabngkbjaaGreatDoor
open Go.RowKit Lx Te
theorem kws_in:∀x∈Pz.kws,x∈wordsL:=by decide
theorem tx_ln (vt vb:Int) (h:litOk cnS vt vb=true) (h0:0≤vb):(txS vt vb).length≤3001:=by
 have hb:vb<9223372036854775808:=by
  unfold litOk at h
  split at h
  ·simpa using h
  ·split at h
   ·rw [Bool.and_eq_true] at h;simpa using h.1
   ·split at h
    ·have:vb≤1:=by simpa using h
     omega
    ·cases h
 exact txS_len vt vb h0 (by omega) (fun _=>hb)
theorem nnX_of:∀(k:Exs),OkX k→Pz.NnX k
 | .nil,_=>trivial
 | .cons h k r,⟨h1,h2,h3⟩=>⟨h1.vb0,nnX_of k h2,nnX_of r h3⟩
theorem nnS_of:∀(k:Sts),OkS k→Pz.NnS k
 | .nil,_=>trivial
 | .cons h e b l r,⟨_,_,h1,h2,h3,h4⟩=>⟨nnX_of e h1,nnS_of b h2,nnS_of l h3,nnS_of r h4⟩
theorem nnD_of {d:De} (h:OkD d):Pz.NnD d:=⟨nnX_of _ h.e,nnS_of _ h.body⟩
theorem errDs_mem:∀(l:List De),errDs rnS cnS l=0→∀d∈l,errD rnS cnS d=0
 | [],_,d,hd=>by simp at hd
 | x::r,h,d,hd=>by
   obtain ⟨h1,h2⟩:=Pz.orE_0 h
   rcases List.mem_cons.1 hd with rfl | hd
   ·exact h1
   ·exact errDs_mem r h2 d hd
theorem errM_decls {m:Mo} (h:errM rnS cnS m=0):∀d∈m.decls,errD rnS cnS d=0:=by
 unfold errM at h
 obtain ⟨_,a2⟩:=Pz.orE_0 h
 obtain ⟨_,a4⟩:=Pz.orE_0 a2
 obtain ⟨_,a6⟩:=Pz.orE_0 a4
 obtain ⟨_,a8⟩:=Pz.orE_0 a6
 exact errDs_mem _ a8
theorem mo_len (m:Mo) (he:errM rnS cnS m=0) (hN:∀d∈m.decls,Pz.NnD d) (hsz:m.imports.length+Pz.fDs m.decls≤10000000):(moT txS m).length≤60000000000:=by
 have:=Pz.moT_ln (rn:=rnS) (cn:=cnS) (tx:=txS) (fun x h=>rn_len h) tx_ln m he hN
 omega
theorem print_up (m:Mo) (v:Value) (w:World) (hok:OkM m) (hv:MoI w m v) (ht:F.Tab w) (hsz:m.imports.length+Pz.fDs m.decls≤10000000) :
 Calls Tryz.prog 8 #[v] w fun e w'=>e = .returned (.tuple #[ct (prS m).1,ci (prS m).2])∧Fr (fun _=>False) w w' :=
 print_w m v w hok hv ht (fun he d hd=>decl_w d (errM_decls he d hd) (hok.decls d hd)) (fun he=>by have:=mo_len m he (fun d hd=>nnD_of (hok.decls d hd)) hsz;omega)
theorem pr_back (m:Mo) (he:errM rnS cnS m=0) (hN:∀d∈m.decls,Pz.NnD d) (h3:(lexS wordsL valS (moT txS m)).2.2≠3):Pz.parS (moT txS m)=some (some m,0,0):=by
 have h0:(lexS wordsL valS (moT txS m)).2.2=0:=by
  rcases Pz.rd_err (Pz.rd_mo lawT kws_in m he hN) with h | h
  ·exact h
  ·exact absurd h h3
 unfold Pz.parS
 rw [if_pos h0]
 refine Pz.mod_back lawT kws_in lawI m he hN _ (lexS wordsL valS (moT txS m)).2.1 ?_ _
 exact Prod.ext rfl (Prod.ext rfl h0)
theorem par_parts (l:By):(∃m ts,Pz.parS l=some (some m,0,0)∧lexS wordsL valS l=(ts,0,0)∧Pz.parT ts l.length=some (some m,0,0)∧ts.length≤1024∧l.length≤4096)∨∃p c,Pz.parS l=some (none,p,c)∧c≠0:=by
 obtain ⟨⟨r,p,c⟩,h⟩:=Pz.parS_some l
 have h':=h
 unfold Pz.parS at h
 rcases Pz.lex_parts l with ⟨h1,h2,h3,h4⟩ | ⟨h1,h2⟩
 ·rw [if_pos h1] at h
  rcases Pz.parT_nz _ _ _ _ _ h with ⟨rfl,rfl,m,rfl⟩ | ⟨hc,rfl⟩
  ·exact Or.inl ⟨m,_,h',h2,h,h3,h4⟩
  ·exact Or.inr ⟨p,c,h',hc⟩
 ·rw [if_neg h1] at h
  simp only [Option.some.injEq,Prod.mk.injEq] at h
  obtain ⟨rfl,rfl,rfl⟩:=h
  exact Or.inr ⟨_,_,h',h1⟩
end Go.Proofs.YteijjaabngkbjaaGreatDoor
namespace Go.Proofs.YteijjaabngkbjaaGreatDoor
namespace Pz
open Lx Te
open Go.RowKit (wrap64)
def Rg {α:Type} (A:Tok→Prop) (P:α→Prop):Ou α→Prop
 | some (.ok a ts)=>P a∧∀t∈ts,A t
 | _=>True
theorem Rg.er {α:Type} {A:Tok→Prop} {P:α→Prop} (p:Nat) (c:Int):Rg A P (some (.er p c)):=trivial
theorem Rg.ok {α:Type} {A:Tok→Prop} {P:α→Prop} {a:α} {ts:List Tok} (h:P a) (ht:∀t∈ts,A t):Rg A P (some (.ok a ts)):=⟨h,ht⟩
theorem Rg.bd {α β:Type} {A:Tok→Prop} {P:α→Prop} {Q:β→Prop} {m:Ou α} {k:α→List Tok→Ou β} (h:Rg A P m) (hk:∀a ts,P a→(∀t∈ts,A t)→Rg A Q (k a ts)):Rg A Q (bd m k):=by
 rcases m with _ | ⟨a,ts⟩ | ⟨p,c⟩
 ·trivial
 ·exact hk a ts h.1 h.2
 ·trivial
theorem Rg.mono {α:Type} {A:Tok→Prop} {P Q:α→Prop} {m:Ou α} (h:Rg A P m) (hk:∀a,P a→Q a):Rg A Q m:=by
 rcases m with _ | ⟨a,ts⟩ | ⟨p,c⟩
 ·trivial
 ·exact ⟨hk a h.1,h.2⟩
 ·trivial
theorem Rg.ite {α:Type} {A:Tok→Prop} {P:α→Prop} {c:Prop} [Decidable c] {a b:Ou α} (h1:c→Rg A P a) (h2:¬c→Rg A P b):Rg A P (if c then a else b):=by
 split
 ·exact h1 ‹_›
 ·exact h2 ‹_›
theorem tl {A:Tok→Prop} {t:Tok} {r:List Tok} (h:∀x∈t::r,A x):A t∧∀x∈r,A x:=⟨h t (by simp),fun x hx=>h x (by simp [hx])⟩
section
variable (rn:Bs→Int) (cn:Int→Int)
def TokR (t:Tok):Prop:=(t.k=1→rn t.x=0)∧(t.k=3∨t.k=4→litOk cn t.ty t.b=true∧0≤t.b)
def QX (L:Int) (d:Nat) (e:Ex):Prop:=RX rn cn e.1 e.2∧0≤e.1.vb∧NnX e.2∧dX e.1 e.2 L (d:Int)≤32
def AlX (d:Nat):Exs→Prop
 | .nil=>True
 | .cons h k r=>QX rn cn 1 d (h,k)∧AlX d r
end
variable {rn:Bs→Int} {cn:Int→Int}
theorem must_rg (A:Tok→Prop) (s:Bs) (fl:Bool) (ts:List Tok) (h:∀t∈ts,A t):Rg A (fun _=>fl=false) (must s fl ts):=by
 cases ts with
 | nil=>trivial
 | cons t r =>
   unfold must
   refine Rg.ite (fun _=>Rg.ite (fun _=>trivial) (fun hf=>Rg.ok (by simpa using hf) (tl h).2)) (fun _=>trivial)
theorem has_rg (A:Tok→Prop) (s:Bs) (fl:Bool) (ts:List Tok) (h:∀t∈ts,A t):Rg A (fun _=>True) (has s fl ts):=by
 cases ts with
 | nil=>trivial
 | cons t r =>
   unfold has
   refine Rg.ite (fun _=>Rg.ite (fun _=>trivial) (fun _=>Rg.ok trivial (tl h).2)) (fun _=>Rg.ok trivial h)
theorem name_rg (fl:Bool) (ts:List Tok) (h:∀t∈ts,TokR rn cn t):Rg (TokR rn cn) (fun n=>fl=false∧rn n=0) (name fl ts):=by
 cases ts with
 | nil=>trivial
 | cons t r =>
   unfold name
   refine Rg.ite (fun hk=>Rg.ite (fun _=>trivial) (fun hf=>Rg.ok ⟨by simpa using hf,(tl h).1.1 hk⟩ (tl h).2)) (fun _=>trivial)
theorem opn_rg (A:Tok→Prop) (s:Bs) (fl:Bool) (d:Nat) (ts:List Tok) (h:∀t∈ts,A t):Rg A (fun _=>fl=false∧d≠32) (opn s fl d ts):=by
 cases ts with
 | nil=>trivial
 | cons t r =>
   unfold opn
   refine Rg.ite (fun hk=>Rg.ite (fun _=>trivial) (fun hd=>Rg.ite (fun _=>trivial) (fun hf=>Rg.ok ⟨by simpa using hf,hd⟩ (tl h).2))) (fun _=>trivial)
theorem dX_less {h:EH} {k:Exs} {L L':Int} {a:Nat} (ha:a≤32) (hl:L'≤L) (H:dX h k L (a:Int)≤32):dX h k L' (a:Int)≤32:=by
 unfold dX inAt at *
 by_cases h1:level h<L'
 ·rw [if_pos h1]
  rw [if_pos (by omega)] at H
  exact H
 ·rw [if_neg h1]
  split at H
  ·rw [wrap_sm (by omega) (by omega)] at H
   have hb:=dK_acc h k true ((a:Int)+1) ((a:Int)+1)
   apply Classical.byContradiction
   intro hn
   exact absurd (Te.dK_deep k h true (a:Int) ((a:Int)+1) (a:Int) ((a:Int)+1) (by omega) (by omega) (by omega) (by omega) (by omega) (by omega)) (by omega)
  ·exact H
theorem dX_ins {h:EH} {k:Exs} (L:Int) {a:Nat} (ha:a+1≤32) (H:dX h k 1 ((a+1:Nat):Int)≤32):dX h k L (a:Int)≤32:=by
 have hl:¬level h<1:=by
  have:1≤level h:=by
   unfold level lv2
   repeat' split
   all_goals omega
  omega
 have H1:=dX_no H hl
 unfold dB at H1
 unfold dX inAt
 split
 ·rw [wrap_sm (by omega) (by omega)]
  simpa using H1
 ·apply Classical.byContradiction
  intro hn
  exact absurd (Te.dK_deep k h true (a:Int) ((a:Int)+1) (a:Int) ((a:Int)+1) (by omega) (by omega) (by omega) (by omega) (by omega) (by omega)) (by simpa using H1)
theorem dX_leaf {h:EH} {L:Int} {a:Nat} (ha:a≤32) (hl:¬level h<L):dX h .nil L (a:Int)≤32:=by
 unfold dX inAt
 rw [if_neg hl,dK]
 omega
theorem dK_put {p h:EH} {k r:Exs} {first:Bool} {a:Nat} {acc:Int} (ha:a≤32) (hp:(a:Int)+kidD p≤32) (H:dX h k (kidL p first) ((a:Int)+kidD p)≤32) (hacc:acc≤32) (hr:∀acc',acc'≤32→dK p r false (a:Int) acc'≤32):dK p (.cons h k r) first (a:Int) acc≤32:=by
 rw [dK]
 have hk:=kidD_r p
 apply hr
 rw [wrap_sm (by omega) (by omega)]
 unfold dX at H
 omega
theorem alx_dep {p:EH} (hp:p.kind=4∨p.kind=5) {d:Nat} (hd:d+1≤32):∀(k:Exs) (first:Bool) (acc:Int),AlX rn cn (d+1) k→acc≤32→dK p k first (d:Int) acc≤32
 | .nil,_,acc,_,h=>h
 | .cons h k r,first,acc,hA,hacc=>by
   have e1:kidD p=1:=by unfold kidD;rw [if_pos hp]
   have e2:kidL p first=1:=by
    unfold kidL
    rw [if_neg (by omega),if_neg (by omega)]
   refine dK_put (by omega) (by omega) ?_ hacc (fun acc' h'=>alx_dep hp hd r false acc' hA.2 h')
   rw [e1,e2]
   have:=hA.1.2.2.2
   simpa using this
theorem alx_err {d:Nat}:∀(k:Exs),AlX rn cn d k→errL rn cn k=0∧NnX k
 | .nil,_=>⟨rfl,trivial⟩
 | .cons h k r,⟨⟨h1,h2,h3,_⟩,h5⟩=>by
   obtain ⟨i1,i2⟩:=alx_err r h5
   refine ⟨?_,h2,h3,i2⟩
   rw [errL,h1.1,h1.2,i1]
   rfl
theorem alx_app {d:Nat} {e:Ex} (he:QX rn cn 1 d e):∀(k:Exs),AlX rn cn d k→AlX rn cn d (k.app (.cons e.1 e.2 .nil))
 | .nil,_=>⟨he,trivial⟩
 | .cons h k r,⟨h1,h2⟩=>⟨h1,alx_app he r h2⟩
theorem qx_lit {t b:Int} (h:litOk cn t b=true) (h0:0≤b) {L:Int} (hL:L≤7) {d:Nat} (hd:d≤32):QX rn cn L d (lit t b):=by
 refine ⟨⟨?_,rfl⟩,h0,trivial,dX_leaf hd (by simp [lit,level];omega)⟩
 simp [lit,errH,fitsE,nameE,orE,h,Exs.len]
theorem qx_input {L:Int} (hL:L≤7) {d:Nat} (hd:d≤32):QX rn cn L d (⟨8,0,[],[],0,0⟩,.nil):=by
 refine ⟨⟨?_,rfl⟩,by decide,trivial,dX_leaf hd (by simp [level];omega)⟩
 simp [errH,fitsE,nameE,orE,Exs.len]
theorem qx_one {op:Int} (ho:op=1∨op=2) {e:Ex} {d:Nat} (hd:d+1≤32) (he:QX rn cn 6 (d+1) e) {L:Int} (hL:L≤6):QX rn cn L d (one op e):=by
 obtain ⟨h1,h2,h3,h4⟩:=he
 refine ⟨⟨?_,?_⟩,by simp [one],⟨h2,h3,trivial⟩,?_⟩
 ·rcases ho with rfl | rfl<;>simp [one,errH,fitsE,nameE,orE,Exs.len]
 ·simp only [one,errL];rw [h1.1,h1.2];rfl
 ·apply dX_of
  ·unfold dB
   refine dK_put (by omega) ?_ ?_ (by omega) (fun acc' h'=>by rw [dK];exact h')
   ·rcases ho with rfl | rfl<;>simp [one,kidD]<;>omega
   ·have e1:kidD (one op e).1=1:=by rcases ho with rfl | rfl<;>simp [one,kidD]
    have e2:kidL (one op e).1 true=6:=by rcases ho with rfl | rfl<;>simp [one,kidL]
    rw [e1,e2]
    simpa using h4
  ·rcases ho with rfl | rfl<;>simp [one,level]<;>omega
theorem qx_conv {op:Int} (ho:op=3∨op=4) {e:Ex} {d:Nat} (hd:d+1≤32) (he:QX rn cn 1 (d+1) e) {L:Int} (hL:L≤7):QX rn cn L d (one op e):=by
 obtain ⟨h1,h2,h3,h4⟩:=he
 refine ⟨⟨?_,?_⟩,by simp [one],⟨h2,h3,trivial⟩,?_⟩
 ·rcases ho with rfl | rfl<;>simp [one,errH,fitsE,nameE,orE,Exs.len]
 ·simp only [one,errL];rw [h1.1,h1.2];rfl
 ·apply dX_of
  ·unfold dB
   refine dK_put (by omega) ?_ ?_ (by omega) (fun acc' h'=>by rw [dK];exact h')
   ·rcases ho with rfl | rfl<;>simp [one,kidD]<;>omega
   ·have e1:kidD (one op e).1=1:=by rcases ho with rfl | rfl<;>simp [one,kidD]
    have e2:kidL (one op e).1 true=1:=by rcases ho with rfl | rfl<;>simp [one,kidL]
    rw [e1,e2]
    simpa using h4
  ·rcases ho with rfl | rfl<;>simp [one,level]<;>omega
theorem qx_bin {op:Int} (h1:1≤op) (h2:op≤13) {e e2:Ex} {d:Nat} (hd:d≤32) (he:QX rn cn (side (lv2 op) true) d e) (he2:QX rn cn (lv2 op+1) d e2) (h7:lv2 op≤5):QX rn cn (lv2 op) d (bin op e e2):=by
 obtain ⟨a1,a2,a3,a4⟩:=he
 obtain ⟨b1,b2,b3,b4⟩:=he2
 refine ⟨⟨?_,?_⟩,by simp [bin],⟨a2,a3,b2,b3,trivial⟩,?_⟩
 ·simp [bin,errH,fitsE,nameE,orE,Exs.len,h1,h2]
 ·simp only [bin,errL];rw [a1.1,a1.2,b1.1,b1.2];rfl
 ·have e1:kidD (bin op e e2).1=0:=by simp [bin,kidD]
  have e3:kidL (bin op e e2).1 true=side (lv2 op) true:=by simp [bin,kidL]
  have e4:kidL (bin op e e2).1 false=lv2 op+1:=by simp [bin,kidL,side];omega
  apply dX_of
  ·unfold dB
   refine dK_put (by omega) (by rw [e1];omega) (by rw [e1,e3];simpa using a4) (by omega) (fun acc' h'=>?_)
   exact dK_put (by omega) (by rw [e1];omega) (by rw [e1,e4];simpa using b4) h' (fun acc' h'=>by rw [dK];exact h')
  ·simp [bin,level]
theorem qx_less {e:Ex} {L L':Int} {d:Nat} (hd:d≤32) (hl:L'≤L) (h:QX rn cn L d e):QX rn cn L' d e:=⟨h.1,h.2.1,h.2.2.1,dX_less hd hl h.2.2.2⟩
theorem qx_ins {e:Ex} (L:Int) {d:Nat} (hd:d+1≤32) (h:QX rn cn 1 (d+1) e):QX rn cn L d e:=⟨h.1,h.2.1,h.2.2.1,dX_ins L hd h.2.2.2⟩
def NmE (rn:Bs→Int) (e:Ex):Prop:=(∃n,rn n=0∧e=(⟨2,0,[],n,0,0⟩,.nil))∨∃n m,rn n=0∧rn m=0∧e=(⟨3,0,n,m,0,0⟩,.nil)
theorem refr_rg (fl:Bool) (ts:List Tok) (h:∀t∈ts,TokR rn cn t):Rg (TokR rn cn) (fun e=>fl=false∧NmE rn e) (refr fl ts):=by
 unfold refr
 refine (name_rg fl ts h).bd fun n ts hn h=>(has_rg _ _ _ _ h).bd fun b ts _ h=>Rg.ite (fun _=>?_) (fun _=>Rg.ok ⟨hn.1,Or.inl ⟨n,hn.2,rfl⟩⟩ h)
 exact (name_rg false ts h).bd fun m ts hm h=>Rg.ok ⟨hn.1,Or.inr ⟨n,m,hn.2,hm.2,rfl⟩⟩ h
theorem qx_nm {e:Ex} (h:NmE rn e) {L:Int} (hL:L≤7) {d:Nat} (hd:d≤32):QX rn cn L d e:=by
 rcases h with ⟨n,hn,rfl⟩ | ⟨n,m,hn,hm,rfl⟩
 ·refine ⟨⟨?_,rfl⟩,Int.le_refl 0,trivial,dX_leaf hd (by simp [level];omega)⟩
  simp [errH,fitsE,nameE,orE,Exs.len,hn]
 ·refine ⟨⟨?_,rfl⟩,Int.le_refl 0,trivial,dX_leaf hd (by simp [level];omega)⟩
  simp [errH,fitsE,nameE,orE,Exs.len,hn,hm]
section
variable {E:Bool→Nat→List Tok→Ou Ex}
def RE (rn:Bs→Int) (cn:Int→Int) (E:Bool→Nat→List Tok→Ou Ex):Prop:=∀fl d ts,d≤32→(∀t∈ts,TokR rn cn t)→Rg (TokR rn cn) (fun e=>fl=false∧QX rn cn 1 d e) (E fl d ts)
theorem ins_rg (hE:RE rn cn E) (fl:Bool) (d:Nat) (ts:List Tok) (hd:d≤32) (h:∀t∈ts,TokR rn cn t):Rg (TokR rn cn) (fun e=>fl=false∧d+1≤32∧QX rn cn 1 (d+1) e) (ins E fl d ts):=by
 unfold ins
 refine (opn_rg _ _ _ _ _ h).bd fun _ ts hd1 h=>?_
 have hd2:d+1≤32:=by omega
 exact (hE false (d+1) ts hd2 h).bd fun e ts he h=>(must_rg _ _ _ _ h).bd fun _ ts _ h=>Rg.ok ⟨hd1.1,hd2,he.2⟩ h
theorem rwE_rg (hE:RE rn cn E) (d:Nat) (hd:d≤32):∀(g:Nat) (acc:Exs) (ts:List Tok),AlX rn cn d acc→acc.len≤8→(∀t∈ts,TokR rn cn t)→Rg (TokR rn cn) (fun l=>AlX rn cn d l∧l.len≤8) (rwE E d g acc ts):=by
 intro g
 induction g with
 | zero=>intro acc ts _ _ _;trivial
 | succ g ih =>
   intro acc ts ha hl h
   cases ts with
   | nil=>trivial
   | cons t r =>
     unfold rwE
     refine Rg.ite (fun _=>?_) (fun _=>Rg.ok ⟨ha,hl⟩ h)
     refine (hE _ d r hd (tl h).2).bd fun e ts he h=>ih _ ts (alx_app he.2 acc ha) ?_ h
     have:=he.1
     rw [beq_eq_false_iff_ne] at this
     rw [Exs.app_len];simp only [Exs.len];omega
theorem args_rg (hE:RE rn cn E) (g d:Nat) (ts:List Tok) (hd:d≤32) (h:∀t∈ts,TokR rn cn t):Rg (TokR rn cn) (fun l=>l = .nil∨(d+1≤32∧AlX rn cn (d+1) l∧l.len≤8)) (args E g d ts):=by
 unfold args
 split
 ·rename_i t u r
  refine Rg.ite (fun _=>Rg.ok (Or.inl rfl) (tl (tl h).2).2) (fun _=>?_)
  refine (opn_rg _ _ _ _ _ h).bd fun _ ts hd1 h=>?_
  have hd2:d+1≤32:=by omega
  refine (hE false (d+1) ts hd2 h).bd fun e ts he h=>(rwE_rg hE (d+1) hd2 g (.cons e.1 e.2 .nil) ts ⟨he.2,trivial⟩ (by simp [Exs.len]) h).bd fun l ts hl h=>(must_rg _ _ _ _ h).bd fun _ ts _ h=>Rg.ok (Or.inr ⟨hd2,hl⟩) h
 ·exact Rg.ite (fun _=>trivial) (fun _=>trivial)
 ·trivial
theorem call_rg (hE:RE rn cn E) (g d:Nat) (e:Ex) (he:NmE rn e) (ts:List Tok) (hd:d≤32) (h:∀t∈ts,TokR rn cn t):Rg (TokR rn cn) (fun c=>(c.1.kind=4∨c.1.kind=5)∧QX rn cn 7 d c) (call E g d e ts):=by
 unfold call
 refine (args_rg hE g d ts hd h).bd fun l ts hl h=>Rg.ok ?_ h
 have hk:(callH e.1).kind=4∨(callH e.1).kind=5:=by
  rcases he with ⟨n,_,rfl⟩ | ⟨n,m,_,_,rfl⟩<;>simp [callH]
 have h0:(callH e.1).vb=0:=by rcases he with ⟨n,_,rfl⟩ | ⟨n,m,_,_,rfl⟩<;>simp [callH]
 have hlen:l.len≤8:=by
  rcases hl with rfl | hl
  ·simp [Exs.len]
  ·exact hl.2.2
 have hH:errH rn cn (callH e.1) l.len=0:=by
  rcases he with ⟨n,hn,rfl⟩ | ⟨n,m,hn,hm,rfl⟩
  ·simp [callH,errH,fitsE,nameE,orE,hn];omega
  ·simp [callH,errH,fitsE,nameE,orE,hn,hm];omega
 have hlv:¬level (callH e.1)<7:=by
  unfold level
  rw [if_neg (by omega),if_neg (by omega)]
  omega
 rcases hl with rfl | ⟨hd2,hA,_⟩
 ·exact ⟨hk,⟨hH,rfl⟩,by show 0≤(callH e.1).vb;omega,trivial,dX_leaf hd hlv⟩
 ·obtain ⟨i1,i2⟩:=alx_err l hA
  exact ⟨hk,⟨hH,i1⟩,by show 0≤(callH e.1).vb;omega,i2,dX_of (alx_dep hk hd2 l true d hA (by omega)) hlv⟩
theorem pr_rg (hc1:cn 9218868437227405312=9218868437227405312) (hc2:cn 9221120237041090561=9221120237041090561) (hE:RE rn cn E) (g:Nat) (fl:Bool) (d:Nat) (ts:List Tok) (hd:d≤32) (h:∀t∈ts,TokR rn cn t):Rg (TokR rn cn) (fun e=>fl=false∧QX rn cn 6 d e) (pr E g fl d ts):=by
 unfold pr
 split
 ·trivial
 rename_i t r
 obtain ⟨ht,hr⟩:=tl h
 have lf:∀{x:Ex} {c:Prop},QX rn cn 6 d x→Rg (TokR rn cn) (fun e=>fl=false∧QX rn cn 6 d e) (if fl then some (.er t.p 3) else some (.ok x r)) :=
  fun hx=>Rg.ite (fun _=>trivial) (fun hf=>Rg.ok ⟨by simpa using hf,hx⟩ hr)
 refine Rg.ite (fun hk=>lf (c:=True) (qx_lit (ht.2 hk).1 (ht.2 hk).2 (by omega) hd)) (fun _=>?_)
 refine Rg.ite (fun hk=>?_) (fun _=>?_)
 ·refine (refr_rg fl _ h).bd fun e ts he h=>?_
  cases ts with
  | nil=>trivial
  | cons u r' =>
    refine Rg.ite (fun _=>(call_rg hE g d e he.2 _ hd h).mono fun c hc=>⟨he.1,qx_less hd (by omega) hc.2⟩) (fun _=>Rg.ok ⟨he.1,qx_nm he.2 (by omega) hd⟩ h)
 refine Rg.ite (fun _=>lf (c:=True) (qx_lit (by simp [litOk]) (by omega) (by omega) hd)) (fun _=>?_)
 refine Rg.ite (fun _=>lf (c:=True) (qx_lit (by simp [litOk]) (by omega) (by omega) hd)) (fun _=>?_)
 refine Rg.ite (fun _=>lf (c:=True) (qx_lit (by simp [litOk,hc1]) (by omega) (by omega) hd)) (fun _=>?_)
 refine Rg.ite (fun _=>lf (c:=True) (qx_lit (by simp [litOk,hc2]) (by omega) (by omega) hd)) (fun _=>?_)
 refine Rg.ite (fun _=>lf (c:=True) (qx_input (by omega) hd)) (fun _=>?_)
 refine Rg.ite (fun _=>Rg.ite (fun _=>trivial) (fun hf=>(ins_rg hE false d r hd hr).bd fun e ts he h=>Rg.ok ⟨by simpa using hf,qx_conv (Or.inl rfl) he.2.1 he.2.2 (by omega)⟩ h)) (fun _=>?_)
 refine Rg.ite (fun _=>Rg.ite (fun _=>trivial) (fun hf=>(ins_rg hE false d r hd hr).bd fun e ts he h=>Rg.ok ⟨by simpa using hf,qx_conv (Or.inr rfl) he.2.1 he.2.2 (by omega)⟩ h)) (fun _=>?_)
 exact (ins_rg hE fl d _ hd h).mono fun e he=>⟨he.1,qx_ins 6 he.2.1 he.2.2⟩
theorem un_rg (hc1:cn 9218868437227405312=9218868437227405312) (hc2:cn 9221120237041090561=9221120237041090561) (hE:RE rn cn E) (g:Nat):∀(f:Nat) (fl:Bool) (d:Nat) (ts:List Tok),d≤32→(∀t∈ts,TokR rn cn t)→Rg (TokR rn cn) (fun e=>fl=false∧QX rn cn 6 d e) (un E g f fl d ts):=by
 intro f
 induction f with
 | zero=>intro fl d ts _ _;trivial
 | succ f ih =>
   intro fl d ts hd h
   cases ts with
   | nil=>trivial
   | cons t r =>
     unfold un
     refine Rg.ite (fun _=>(opn_rg _ _ _ _ _ h).bd fun _ ts h1 h=>(ih false (d+1) ts (by omega) h).bd fun e ts he h=>Rg.ok ⟨h1.1,qx_one (Or.inl rfl) (by omega) he.2 (by omega)⟩ h) (fun _=>?_)
     exact Rg.ite (fun _=>(opn_rg _ _ _ _ _ h).bd fun _ ts h1 h=>(ih false (d+1) ts (by omega) h).bd fun e ts he h=>Rg.ok ⟨h1.1,qx_one (Or.inr rfl) (by omega) he.2 (by omega)⟩ h) (fun _=>pr_rg hc1 hc2 hE g fl d _ hd h)
end
theorem opOf_lv (x:Bs) (h:(opOf x).2≠0):1≤(opOf x).1∧(opOf x).1≤13∧lv2 (opOf x).1=((opOf x).2:Int)∧(opOf x).2≤5:=by
 by_cases e0:x=[124,124]
 ·subst e0;exact ⟨by decide,by decide,by decide,by decide⟩
 by_cases e1:x=[38,38]
 ·subst e1;exact ⟨by decide,by decide,by decide,by decide⟩
 by_cases e2:x=[61,61]
 ·subst e2;exact ⟨by decide,by decide,by decide,by decide⟩
 by_cases e3:x=[33,61]
 ·subst e3;exact ⟨by decide,by decide,by decide,by decide⟩
 by_cases e4:x=[60]
 ·subst e4;exact ⟨by decide,by decide,by decide,by decide⟩
 by_cases e5:x=[60,61]
 ·subst e5;exact ⟨by decide,by decide,by decide,by decide⟩
 by_cases e6:x=[62]
 ·subst e6;exact ⟨by decide,by decide,by decide,by decide⟩
 by_cases e7:x=[62,61]
 ·subst e7;exact ⟨by decide,by decide,by decide,by decide⟩
 by_cases e8:x=[43]
 ·subst e8;exact ⟨by decide,by decide,by decide,by decide⟩
 by_cases e9:x=[45]
 ·subst e9;exact ⟨by decide,by decide,by decide,by decide⟩
 by_cases e10:x=[42]
 ·subst e10;exact ⟨by decide,by decide,by decide,by decide⟩
 by_cases e11:x=[47]
 ·subst e11;exact ⟨by decide,by decide,by decide,by decide⟩
 by_cases e12:x=[37]
 ·subst e12;exact ⟨by decide,by decide,by decide,by decide⟩
 exfalso
 apply h
 unfold opOf
 rw [if_neg e0,if_neg e1,if_neg e2,if_neg e3,if_neg e4,if_neg e5,if_neg e6,if_neg e7,if_neg e8,if_neg e9,if_neg e10,if_neg e11,if_neg e12]
theorem lp_rg {N:List Tok→Ou Ex} {lv d:Nat} (h1:1≤lv) (h5:lv≤5) (hd:d≤32) (hN:∀ts,(∀t∈ts,TokR rn cn t)→Rg (TokR rn cn) (QX rn cn ((lv:Int)+1) d) (N ts)):∀(f:Nat) (e:Ex) (ts:List Tok),QX rn cn (side (lv:Int) true) d e→(∀t∈ts,TokR rn cn t)→Rg (TokR rn cn) (QX rn cn (lv:Int) d) (lp N lv f e ts):=by
 intro f
 induction f with
 | zero=>intro e ts _ _;trivial
 | succ f ih =>
   intro e ts he h
   cases ts with
   | nil=>trivial
   | cons t r =>
     have hs:(lv:Int)≤side (lv:Int) true:=by unfold side;split<;>(try split)<;>omega
     unfold lp
     refine Rg.ite (fun _=>Rg.ok (qx_less hd hs he) h) (fun hop=>?_)
     have hop:(opOf t.x).2=lv:=by simpa using hop
     obtain ⟨o1,o2,o3,o4⟩:=opOf_lv t.x (by omega)
     refine (hN r (tl h).2).bd fun e2 ts he2 h=>?_
     have hb:QX rn cn (lv:Int) d (bin (opOf t.x).1 e e2):=by
      have hl:lv2 (opOf t.x).1=(lv:Int):=by rw [o3,hop]
      have:=qx_bin (rn:=rn) (cn:=cn) o1 o2 hd (e:=e) (e2:=e2) (by rw [hl];exact he) (by rw [hl];exact he2) (by omega)
      rw [hl] at this
      exact this
     refine Rg.ite (fun _=>Rg.ok hb h) (fun h3=>ih _ ts ?_ h)
     have:side (lv:Int) true=(lv:Int):=by unfold side;rw [if_neg (by omega),if_neg (by simp;omega)]
     rw [this]
     exact hb
theorem two_rg {E:Bool→Nat→List Tok→Ou Ex} (hc1:cn 9218868437227405312=9218868437227405312) (hc2:cn 9221120237041090561=9221120237041090561) (hE:RE rn cn E) (g:Nat):∀(n:Nat),n≤5→∀(fl:Bool) (d:Nat) (ts:List Tok),d≤32→(∀t∈ts,TokR rn cn t)→Rg (TokR rn cn) (fun e=>fl=false∧QX rn cn (6 - (n:Int)) d e) (two E g n fl d ts):=by
 intro n
 induction n with
 | zero=>intro _ fl d ts hd h;exact un_rg hc1 hc2 hE g g fl d ts hd h
 | succ n ih =>
   intro hn fl d ts hd h
   unfold two
   refine (ih (by omega) fl d ts hd h).bd fun e ts he h=>?_
   have e1:((5 - n:Nat):Int)+1=6 - (n:Int):=by omega
   have e2:((5 - n:Nat):Int)=6 - ((n+1:Nat):Int):=by omega
   have hp:=lp_rg (rn:=rn) (cn:=cn) (N:=two E g n false d) (lv:=5 - n) (d:=d) (by omega) (by omega) hd (fun ts h=>(ih (by omega) false d ts hd h).mono fun e he=>by rw [e1];exact he.2) g e ts (qx_less hd (by unfold side;split<;>(try split)<;>omega) he.2) h
   exact hp.mono fun e2' he2=>⟨he.1,by rw [←e2];exact he2⟩
theorem expr_rg (hc1:cn 9218868437227405312=9218868437227405312) (hc2:cn 9221120237041090561=9221120237041090561):∀(f:Nat),RE rn cn (expr f)
 | 0=>fun _ _ _ _ _=>trivial
 | f+1=>fun fl d ts hd h=>two_rg hc1 hc2 (expr_rg hc1 hc2 f) (f+1) 5 (Nat.le_refl _) fl d ts hd h
end Pz
end Go.Proofs.YteijjaabngkbjaaGreatDoor
namespace Go.Proofs.YteijjaabngkbjaaGreatDoor
namespace Pz
open Lx Te
open Go.RowKit (wrap64)
section
variable (rn:Bs→Int) (cn:Int→Int)
def QS (d:Nat) (s:Sts):Prop:=errS rn cn s=0∧NnS s∧∀a:Int,a≤32→dS s (d:Int) a≤32
def QB (d:Nat) (s:Sts):Prop:=errS rn cn s=0∧NnS s∧dS s ((d:Int)+1) ((d:Int)+1)≤32
def QL (d:Nat) (e:Exs):Prop:=e.len=1∧errL rn cn e=0∧NnX e∧dL e (d:Int) (d:Int)≤32
def QT (d:Nat) (s:St):Prop:=QS rn cn d (.cons s.1 s.2.1 s.2.2.1 s.2.2.2 .nil)
end
variable {rn:Bs→Int} {cn:Int→Int}
theorem errS_app:∀(x y:Sts),errS rn cn x=0→errS rn cn y=0→errS rn cn (x.app y)=0
 | .nil,y,_,h=>h
 | .cons h e b l r,y,hx,hy=>by
   rw [errS] at hx
   obtain ⟨h1,h2⟩:=orE_0 hx
   rw [Sts.app,errS,h1,errS_app r y h2 hy]
   rfl
theorem nnS_app:∀(x y:Sts),NnS x→NnS y→NnS (x.app y)
 | .nil,y,_,h=>h
 | .cons h e b l r,y,⟨h1,h2,h3,h4⟩,hy=>⟨h1,h2,h3,nnS_app r y h4 hy⟩
theorem dS_app:∀(x y:Sts) (a acc:Int),dS (x.app y) a acc=dS y a (dS x a acc)
 | .nil,y,_,_=>rfl
 | .cons h e b l r,y,a,acc=>by
   rw [Sts.app,dS,dS]
   exact dS_app r y a _
theorem qs_app {d:Nat} {x y:Sts} (hx:QS rn cn d x) (hy:QS rn cn d y):QS rn cn d (x.app y) :=
 ⟨errS_app x y hx.1 hy.1,nnS_app x y hx.2.1 hy.2.1,fun a ha=>by rw [dS_app];exact hy.2.2 _ (hx.2.2 a ha)⟩
theorem qs_nil {d:Nat}:QS rn cn d .nil:=⟨rfl,trivial,fun a h=>h⟩
theorem ql_of {d:Nat} (hd:d≤32) {e:Ex} (h:QX rn cn 1 d e):QL rn cn d (.cons e.1 e.2 .nil):=by
 obtain ⟨h1,h2,h3,h4⟩:=h
 refine ⟨rfl,?_,⟨h2,h3,trivial⟩,?_⟩
 ·rw [errL,h1.1,h1.2];rfl
 ·rw [dL,dL];omega
theorem qt_of {d:Nat} (hd:d≤32) {h:SH} {e:Exs} {b l:Sts} (hH:errSH rn h e b.len l.len=0) (he1:errL rn cn e=0) (he2:NnX e) (he3:dL e (d:Int) (d:Int)≤32)
 (hb:b = .nil∧hasBody h.kind=false∨QB rn cn d b) (hl:l = .nil∧h.kind≠8∨QB rn cn d l):QT rn cn d (h,e,b,l):=by
 have b1:errS rn cn b=0∧NnS b:=by
  rcases hb with ⟨rfl,_⟩ | hb
  ·exact ⟨rfl,trivial⟩
  ·exact ⟨hb.1,hb.2.1⟩
 have l1:errS rn cn l=0∧NnS l:=by
  rcases hl with ⟨rfl,_⟩ | hl
  ·exact ⟨rfl,trivial⟩
  ·exact ⟨hl.1,hl.2.1⟩
 refine ⟨?_,⟨he2,b1.2,l1.2,trivial⟩,fun a ha=>?_⟩
 ·rw [errS,hH,he1,b1.1,l1.1];rfl
 ·have e2:∀x:Int,x≤32→(if hasBody h.kind || decide (0<b.len) then max x (dS b ((d:Int)+1) ((d:Int)+1)) else x)≤32:=by
   intro x hx
   split
   ·rcases hb with ⟨rfl,h0⟩ | hb
    ·rename_i hc;simp [h0,Sts.len] at hc
    ·have:=hb.2.2;omega
   ·exact hx
  have e3:∀x:Int,x≤32→(if h.kind=8∨0<l.len then max x (dS l ((d:Int)+1) ((d:Int)+1)) else x)≤32:=by
   intro x hx
   split
   ·rcases hl with ⟨rfl,h0⟩ | hl
    ·rename_i hc;simp [h0,Sts.len] at hc
    ·have:=hl.2.2;omega
   ·exact hx
  rw [dS,dS,wrap_sm (by omega) (by omega)]
  have:=e3 _ (e2 _ he3)
  simp only
  exact Int.max_le.2 ⟨ha,this⟩
section
variable {E:Nat→List Tok→Ou Ex} {C:Nat→Ex→List Tok→Ou Ex} {B:Nat→List Tok→Ou Sts}
def RE0 (rn:Bs→Int) (cn:Int→Int) (E:Nat→List Tok→Ou Ex):Prop:=∀d ts,d≤32→(∀t∈ts,TokR rn cn t)→Rg (TokR rn cn) (QX rn cn 1 d) (E d ts)
def RC0 (rn:Bs→Int) (cn:Int→Int) (C:Nat→Ex→List Tok→Ou Ex):Prop:=∀d e ts,d≤32→NmE rn e→(∀t∈ts,TokR rn cn t)→Rg (TokR rn cn) (fun c=>(c.1.kind=4∨c.1.kind=5)∧QX rn cn 7 d c) (C d e ts)
def RB0 (rn:Bs→Int) (cn:Int→Int) (B:Nat→List Tok→Ou Sts):Prop:=∀d ts,d≤32→(∀t∈ts,TokR rn cn t)→Rg (TokR rn cn) (QB rn cn d) (B d ts)
theorem lone_rg (hE:RE0 rn cn E) (d:Nat) (ts:List Tok) (hd:d≤32) (h:∀t∈ts,TokR rn cn t):Rg (TokR rn cn) (QL rn cn d) (lone E d ts) :=
 (hE d ts hd h).bd fun e ts he h=>Rg.ok (ql_of hd he) h
theorem ended_rg (P:St→Prop) (kind:Int) (n:Bs) (e:Exs) (ts:List Tok) (hP:P (⟨kind,n⟩,e,.nil,.nil)) (h:∀t∈ts,TokR rn cn t):Rg (TokR rn cn) P (ended kind n e ts) :=
 (must_rg _ _ _ _ h).bd fun _ ts _ h=>Rg.ok hP h
theorem asg_rg (hE:RE0 rn cn E) (d:Nat) (kind:Int) (hk:kind=1∨kind=2) (n:Bs) (hn:rn n=0) (ts:List Tok) (hd:d≤32) (h:∀t∈ts,TokR rn cn t):Rg (TokR rn cn) (QT rn cn d) (asg E d kind n ts):=by
 unfold asg
 refine (must_rg _ _ _ _ h).bd fun _ ts _ h=>(lone_rg hE d ts hd h).bd fun e ts he h=>ended_rg _ kind n e ts ?_ h
 refine qt_of hd ?_ he.2.1 he.2.2.1 he.2.2.2 (Or.inl ⟨rfl,?_⟩) (Or.inl ⟨rfl,?_⟩)
 ·rcases hk with rfl | rfl<;>simp [errSH,fitsS,nameS,orE,he.1,hn,Sts.len]
 ·rcases hk with rfl | rfl<;>rfl
 ·rcases hk with rfl | rfl<;>simp
theorem named_rg (hE:RE0 rn cn E) (hC:RC0 rn cn C) (d:Nat) (ts:List Tok) (hd:d≤32) (h:∀t∈ts,TokR rn cn t):Rg (TokR rn cn) (QT rn cn d) (named E C d ts):=by
 unfold named
 refine (refr_rg false ts h).bd fun e ts he h=>?_
 cases ts with
 | nil=>trivial
 | cons u r =>
   refine Rg.ite (fun hc=>?_) (fun _=>?_)
   ·rcases he.2 with ⟨n,hn,rfl⟩ | ⟨n,m,_,_,rfl⟩
    ·exact asg_rg hE d 2 (Or.inr rfl) n hn _ hd h
    ·exact absurd hc.1 (by show ¬(3:Int)=2;decide)
   ·refine (hC d e _ hd he.2 h).bd fun c ts hc h=>ended_rg _ 9 [] _ ts ?_ h
    have hq:=ql_of hd (qx_less hd (by omega) hc.2)
    refine qt_of hd ?_ hq.2.1 hq.2.2.1 hq.2.2.2 (Or.inl ⟨rfl,rfl⟩) (Or.inl ⟨rfl,by decide⟩)
    simp [errSH,fitsS,nameS,orE,Exs.len,Exs.kind0,hc.1,Sts.len]
theorem branch_rg (hE:RE0 rn cn E) (hB:RB0 rn cn B) (d:Nat) (ts:List Tok) (hd:d≤32) (h:∀t∈ts,TokR rn cn t):Rg (TokR rn cn) (QT rn cn d) (branch E B d ts):=by
 unfold branch
 refine (lone_rg hE d ts hd h).bd fun e ts he h=>(hB d ts hd h).bd fun b ts hb h=>(has_rg _ _ _ _ h).bd fun y ts _ h=>Rg.ite (fun _=>?_) (fun _=>Rg.ok ?_ h)
 ·refine (hB d ts hd h).bd fun l ts hl h=>Rg.ok ?_ h
  refine qt_of hd ?_ he.2.1 he.2.2.1 he.2.2.2 (Or.inr hb) (Or.inr hl)
  simp [errSH,fitsS,nameS,orE,he.1]
 ·refine qt_of hd ?_ he.2.1 he.2.2.1 he.2.2.2 (Or.inr hb) (Or.inl ⟨rfl,by decide⟩)
  simp [errSH,fitsS,nameS,orE,he.1]
theorem while_rg (hE:RE0 rn cn E) (hB:RB0 rn cn B) (d:Nat) (ts:List Tok) (hd:d≤32) (h:∀t∈ts,TokR rn cn t):Rg (TokR rn cn) (QT rn cn d) (while_ E B d ts):=by
 unfold while_
 refine (lone_rg hE d ts hd h).bd fun e ts he h=>(hB d ts hd h).bd fun b ts hb h=>Rg.ok ?_ h
 refine qt_of hd ?_ he.2.1 he.2.2.1 he.2.2.2 (Or.inr hb) (Or.inl ⟨rfl,by decide⟩)
 simp [errSH,fitsS,nameS,orE,he.1,Sts.len]
theorem returned_rg (hE:RE0 rn cn E) (d:Nat) (ts:List Tok) (hd:d≤32) (h:∀t∈ts,TokR rn cn t):Rg (TokR rn cn) (QT rn cn d) (returned E d ts):=by
 unfold returned
 split
 ·trivial
 refine Rg.ite (fun _=>ended_rg _ 5 [] _ _ ?_ h) (fun _=>?_)
 ·refine qt_of hd ?_ rfl trivial (by rw [dL];omega) (Or.inl ⟨rfl,rfl⟩) (Or.inl ⟨rfl,by decide⟩)
  simp [errSH,fitsS,nameS,orE,Exs.len,Sts.len]
 ·refine (lone_rg hE d _ hd h).bd fun e ts he h=>ended_rg _ 5 [] e ts ?_ h
  refine qt_of hd ?_ he.2.1 he.2.2.1 he.2.2.2 (Or.inl ⟨rfl,rfl⟩) (Or.inl ⟨rfl,by decide⟩)
  simp [errSH,fitsS,nameS,orE,he.1,Sts.len]
theorem tried_rg (hB:RB0 rn cn B) (d:Nat) (ts:List Tok) (hd:d≤32) (h:∀t∈ts,TokR rn cn t):Rg (TokR rn cn) (QT rn cn d) (tried B d ts):=by
 unfold tried
 refine (hB d ts hd h).bd fun b ts hb h=>(must_rg _ _ _ _ h).bd fun _ ts _ h=>(name_rg false ts h).bd fun n ts hn h=>(hB d ts hd h).bd fun l ts hl h=>Rg.ok ?_ h
 refine qt_of hd ?_ rfl trivial (by rw [dL];omega) (Or.inr hb) (Or.inr hl)
 simp [errSH,fitsS,nameS,orE,Exs.len,hn.2]
theorem shown_rg (hE:RE0 rn cn E) (kind:Int) (hk:kind=6∨kind=7) (d:Nat) (ts:List Tok) (hd:d≤32) (h:∀t∈ts,TokR rn cn t):Rg (TokR rn cn) (QT rn cn d) (bd (lone E d ts) fun e ts=>ended kind [] e ts):=by
 refine (lone_rg hE d ts hd h).bd fun e ts he h=>ended_rg _ kind [] e ts ?_ h
 refine qt_of hd ?_ he.2.1 he.2.2.1 he.2.2.2 (Or.inl ⟨rfl,?_⟩) (Or.inl ⟨rfl,?_⟩)
 ·rcases hk with rfl | rfl<;>simp [errSH,fitsS,nameS,orE,he.1,Sts.len]
 ·rcases hk with rfl | rfl<;>rfl
 ·rcases hk with rfl | rfl<;>decide
theorem stm_rg (hE:RE0 rn cn E) (hC:RC0 rn cn C) (hB:RB0 rn cn B) (d:Nat) (ts:List Tok) (hd:d≤32) (h:∀t∈ts,TokR rn cn t):Rg (TokR rn cn) (QT rn cn d) (stm E C B d ts):=by
 unfold stm
 split
 ·trivial
 obtain ⟨ht,hr⟩:=tl h
 refine Rg.ite (fun _=>named_rg hE hC d _ hd h) (fun _=>?_)
 refine Rg.ite (fun _=>(name_rg false _ hr).bd fun n ts hn h=>asg_rg hE d 1 (Or.inl rfl) n hn.2 ts hd h) (fun _=>?_)
 refine Rg.ite (fun _=>branch_rg hE hB d _ hd hr) (fun _=>?_)
 refine Rg.ite (fun _=>while_rg hE hB d _ hd hr) (fun _=>?_)
 refine Rg.ite (fun _=>returned_rg hE d _ hd hr) (fun _=>?_)
 refine Rg.ite (fun _=>shown_rg hE 6 (Or.inl rfl) d _ hd hr) (fun _=>?_)
 refine Rg.ite (fun _=>shown_rg hE 7 (Or.inr rfl) d _ hd hr) (fun _=>?_)
 exact Rg.ite (fun _=>tried_rg hB d _ hd hr) (fun _=>trivial)
end
theorem sts_rg {S:List Tok→Ou St} {d:Nat} (hS:∀ts,(∀t∈ts,TokR rn cn t)→Rg (TokR rn cn) (QT rn cn d) (S ts)):∀(g:Nat) (acc:Sts) (ts:List Tok),QS rn cn d acc→(∀t∈ts,TokR rn cn t)→Rg (TokR rn cn) (QS rn cn d) (sts S g acc ts):=by
 intro g
 induction g with
 | zero=>intro acc ts _ _;trivial
 | succ g ih =>
   intro acc ts ha h
   cases ts with
   | nil=>trivial
   | cons t r =>
     unfold sts
     exact Rg.ite (fun _=>Rg.ok ha h) (fun _=>(hS _ h).bd fun s ts hs h=>ih _ ts (qs_app ha hs) h)
theorem blk_rg {E:Nat→List Tok→Ou Ex} {C:Nat→Ex→List Tok→Ou Ex} (hE:RE0 rn cn E) (hC:RC0 rn cn C) (g:Nat):∀f,RB0 rn cn (blk E C g f):=by
 intro f
 induction f with
 | zero=>intro d ts _ _;trivial
 | succ f ih =>
   intro d ts hd h
   unfold blk
   refine (opn_rg _ _ _ _ _ h).bd fun _ ts h1 h=>(sts_rg (fun ts h=>stm_rg hE hC ih (d+1) ts (by omega) h) g .nil ts qs_nil h).bd fun l ts hl h=>(must_rg _ _ _ _ h).bd fun _ ts _ h=>Rg.ok ⟨hl.1,hl.2.1,?_⟩ h
   have:=hl.2.2 ((d:Int)+1) (by omega)
   simpa using this
theorem typ_rg (A:Tok→Prop) (ts:List Tok) (h:∀t∈ts,A t):Rg A (fun t=>isTy t=true) (typ ts):=by
 unfold typ
 split
 ·trivial
 obtain ⟨_,hr⟩:=tl h
 exact Rg.ite (fun _=>Rg.ok rfl hr) (fun _=>Rg.ite (fun _=>Rg.ok rfl hr) (fun _=>Rg.ite (fun _=>Rg.ok rfl hr) (fun _=>trivial)))
def PaR (rn:Bs→Int) (p:Pa):Prop:=rn p.name=0∧isTy p.type=true
theorem par1_rg (fl:Bool) (ts:List Tok) (h:∀t∈ts,TokR rn cn t):Rg (TokR rn cn) (fun p=>fl=false∧PaR rn p) (par1 fl ts):=by
 unfold par1
 exact (name_rg fl ts h).bd fun n ts hn h=>(must_rg _ _ _ _ h).bd fun _ ts _ h=>(typ_rg _ _ h).bd fun t ts ht h=>Rg.ok ⟨hn.1,hn.2,ht⟩ h
theorem rwP_rg:∀(g:Nat) (acc:List Pa) (ts:List Tok),(∀p∈acc,PaR rn p)→acc.length≤8→(∀t∈ts,TokR rn cn t)→Rg (TokR rn cn) (fun l=>(∀p∈l,PaR rn p)∧l.length≤8) (rwP g acc ts):=by
 intro g
 induction g with
 | zero=>intro acc ts _ _ _;trivial
 | succ g ih =>
   intro acc ts ha hl h
   cases ts with
   | nil=>trivial
   | cons t r =>
     unfold rwP
     refine Rg.ite (fun _=>?_) (fun _=>Rg.ok ⟨ha,hl⟩ h)
     refine (par1_rg _ r (tl h).2).bd fun p ts hp h=>ih _ ts ?_ ?_ h
     ·intro q hq
      rcases List.mem_append.1 hq with hq | hq
      ·exact ha q hq
      ·rw [List.mem_singleton.1 hq];exact hp.2
     ·have:=hp.1
      rw [beq_eq_false_iff_ne] at this
      rw [List.length_append];simp only [List.length_singleton];omega
theorem errP_oR:∀(l:List Pa),(∀p∈l,PaR rn p)→errP rn l=0
 | [],_=>rfl
 | p::r,h=>by
   have h1:=h p (by simp)
   rw [errP,h1.1,h1.2,errP_oR r (fun q hq=>h q (by simp [hq]))]
   rfl
def QD (rn:Bs→Int) (cn:Int→Int) (d:De):Prop:=errD rn cn d=0∧NnD d
section
variable {E:Nat→List Tok→Ou Ex} {B:Nat→List Tok→Ou Sts}
theorem holder_rg (hE:RE0 rn cn E) (kind:Int) (ex:Bool) (hk:kind=1∨kind=2∧ex=false) (ts:List Tok) (h:∀t∈ts,TokR rn cn t):Rg (TokR rn cn) (QD rn cn) (holder E kind ex ts):=by
 unfold holder
 refine (name_rg false ts h).bd fun n ts hn h=>(must_rg _ _ _ _ h).bd fun _ ts _ h=>(typ_rg _ _ h).bd fun t ts ht h=>(must_rg _ _ _ _ h).bd fun _ ts _ h=>(lone_rg hE 0 ts (by omega) h).bd fun e ts he h=>(must_rg _ _ _ _ h).bd fun _ ts _ h=>Rg.ok ⟨?_,he.2.2.1,trivial⟩ h
 obtain ⟨h1,h2,h3,h4⟩:=he
 have hdd:dD ⟨kind,ex,n,t,[],e,.nil⟩≤32:=by
  have hk3:¬(kind=3∨0<Sts.nil.len):=by simp [Sts.len];omega
  unfold dD
  simp only
  rw [if_neg hk3]
  exact h4
 unfold errD
 rw [if_neg (by omega)]
 rcases hk with rfl | ⟨rfl,rfl⟩<;>simp [fitsD,ht,h1,h2,hn.2,orE,errP,errS,Sts.len]
theorem params_rg (g:Nat) (ts:List Tok) (h:∀t∈ts,TokR rn cn t):Rg (TokR rn cn) (fun l=>(∀p∈l,PaR rn p)∧l.length≤8) (params g ts):=by
 unfold params
 split
 ·trivial
 exact Rg.ite (fun _=>Rg.ok ⟨by simp,by simp⟩ h) (fun _=>(par1_rg false _ h).bd fun p ts hp h=>rwP_rg g [p] ts (by simpa using hp.2) (by simp) h)
theorem result_rg (A:Tok→Prop) (ts:List Tok) (h:∀t∈ts,A t):Rg A (fun t=>t=0∨isTy t=true) (result ts):=by
 unfold result
 exact (has_rg _ _ _ _ h).bd fun y ts _ h=>Rg.ite (fun _=>(typ_rg _ _ h).mono fun t ht=>Or.inr ht) (fun _=>Rg.ok (Or.inl rfl) h)
theorem fnc_rg (hB:RB0 rn cn B) (g:Nat) (ex:Bool) (ts:List Tok) (h:∀t∈ts,TokR rn cn t):Rg (TokR rn cn) (QD rn cn) (fnc B g ex ts):=by
 unfold fnc
 refine (name_rg false ts h).bd fun n ts hn h=>(must_rg _ _ _ _ h).bd fun _ ts _ h=>(params_rg g ts h).bd fun ps ts hps h=>(must_rg _ _ _ _ h).bd fun _ ts _ h=>(result_rg _ _ h).bd fun t ts ht h=>(hB 0 ts (by omega) h).bd fun b ts hb h=>Rg.ok ⟨?_,trivial,hb.2.1⟩ h
 have hdd:dD ⟨3,ex,n,t,ps,.nil,b⟩≤32:=by
  have:=hb.2.2
  have h1:dS b 1 1≤32:=by simpa using this
  simp only [dD,dL,true_or,if_true]
  omega
 have h8:¬8<ps.length:=by have:=hps.2;omega
 unfold errD
 rw [if_neg (by omega)]
 have e1:=errP_oR ps hps.1
 have e2:=hb.1
 have e3:(t == 0 || isTy t)=true:=by rcases ht with rfl | ht<;>simp [*]
 simp [fitsD,e3,hn.2,orE,h8,e1,e2,errL,Exs.len]
theorem dcl2_rg (hE:RE0 rn cn E) (hB:RB0 rn cn B) (g:Nat) (ex fl:Bool) (ts:List Tok) (h:∀t∈ts,TokR rn cn t):Rg (TokR rn cn) (fun d=>fl=false∧QD rn cn d) (dcl2 E B g ex fl ts):=by
 unfold dcl2
 split
 ·trivial
 obtain ⟨_,hr⟩:=tl h
 refine Rg.ite (fun _=>Rg.ite (fun _=>trivial) (fun hf=>(holder_rg hE 1 ex (Or.inl rfl) _ hr).mono fun d hd=>⟨by simpa using hf,hd⟩)) (fun _=>?_)
 refine Rg.ite (fun hc=>Rg.ite (fun _=>trivial) (fun hf=>(holder_rg hE 2 ex (Or.inr ⟨rfl,hc.1⟩) _ hr).mono fun d hd=>⟨by simpa using hf,hd⟩)) (fun _=>?_)
 exact Rg.ite (fun _=>Rg.ite (fun _=>trivial) (fun hf=>(fnc_rg hB g ex _ hr).mono fun d hd=>⟨by simpa using hf,hd⟩)) (fun _=>trivial)
theorem dcl_rg (hE:RE0 rn cn E) (hB:RB0 rn cn B) (g:Nat) (fl:Bool) (ts:List Tok) (h:∀t∈ts,TokR rn cn t):Rg (TokR rn cn) (fun d=>fl=false∧QD rn cn d) (dcl E B g fl ts):=by
 unfold dcl
 split
 ·trivial
 exact Rg.ite (fun _=>Rg.ite (fun _=>trivial) (fun hf=>(dcl2_rg hE hB g true false _ (tl h).2).mono fun d hd=>⟨by simpa using hf,hd.2⟩)) (fun _=>dcl2_rg hE hB g false fl _ h)
theorem dcls_rg (hE:RE0 rn cn E) (hB:RB0 rn cn B) (g:Nat):∀(f:Nat) (acc:List De) (ts:List Tok),(∀d∈acc,QD rn cn d)→acc.length≤64→(∀t∈ts,TokR rn cn t)→Rg (TokR rn cn) (fun l=>(∀d∈l,QD rn cn d)∧l.length≤64) (dcls E B g f acc ts):=by
 intro f
 induction f with
 | zero=>intro acc ts _ _ _;trivial
 | succ f ih =>
   intro acc ts ha hl h
   match ts,h with
   | [],_=>trivial
   | [t],h=>exact Rg.ok (P:=fun l:List De=>(∀d∈l,QD rn cn d)∧l.length≤64) ⟨ha,hl⟩ h
   | t::u::r,h =>
     unfold dcls
     refine (dcl_rg hE hB g _ _ h).bd fun d ts hp h=>ih _ ts ?_ ?_ h
     ·intro q hq
      rcases List.mem_append.1 hq with hq | hq
      ·exact ha q hq
      ·rw [List.mem_singleton.1 hq];exact hp.2
     ·have:=hp.1
      rw [beq_eq_false_iff_ne] at this
      rw [List.length_append];simp only [List.length_singleton];omega
end
theorem imp1_rg (fl:Bool) (ts:List Tok) (h:∀t∈ts,TokR rn cn t):Rg (TokR rn cn) (fun n=>fl=false∧rn n=0) (imp1 fl ts):=by
 unfold imp1
 exact (must_rg _ _ _ _ h).bd fun _ ts hf h=>(name_rg false ts h).bd fun n ts hn h=>(must_rg _ _ _ _ h).bd fun _ ts _ h=>Rg.ok ⟨hf,hn.2⟩ h
theorem imps_rg:∀(f:Nat) (acc:List Bs) (ts:List Tok),(∀x∈acc,rn x=0)→acc.length≤16→(∀t∈ts,TokR rn cn t)→Rg (TokR rn cn) (fun l=>(∀x∈l,rn x=0)∧l.length≤16) (imps f acc ts):=by
 intro f
 induction f with
 | zero=>intro acc ts _ _ _;trivial
 | succ f ih =>
   intro acc ts ha hl h
   cases ts with
   | nil=>trivial
   | cons t r =>
     unfold imps
     refine Rg.ite (fun _=>?_) (fun _=>Rg.ok ⟨ha,hl⟩ h)
     refine (imp1_rg _ _ h).bd fun p ts hp h=>ih _ ts ?_ ?_ h
     ·intro q hq
      rcases List.mem_append.1 hq with hq | hq
      ·exact ha q hq
      ·rw [List.mem_singleton.1 hq];exact hp.2
     ·have:=hp.1
      rw [beq_eq_false_iff_ne] at this
      rw [List.length_append];simp only [List.length_singleton];omega
theorem errI_oR:∀(l:List Bs),(∀x∈l,rn x=0)→errI rn l=0
 | [],_=>rfl
 | x::r,h=>by
   rw [errI,h x (by simp),errI_oR r (fun q hq=>h q (by simp [hq]))]
   rfl
theorem errDs_oR:∀(l:List De),(∀d∈l,QD rn cn d)→errDs rn cn l=0
 | [],_=>rfl
 | x::r,h=>by
   rw [errDs,(h x (by simp)).1,errDs_oR r (fun q hq=>h q (by simp [hq]))]
   rfl
theorem parT_right (hc1:cn 9218868437227405312=9218868437227405312) (hc2:cn 9221120237041090561=9221120237041090561) (ts:List Tok) (n:Nat) (m:Mo) (p:Nat) (c:Int) (hA:∀t∈ts,TokR rn cn t) (h:parT ts n=some (some m,p,c)) :
 errM rn cn m=0∧∀d∈m.decls,NnD d:=by
 have hE:=expr_rg (rn:=rn) hc1 hc2 (ts.length+2)
 have hE0:RE0 rn cn (E0 (ts.length+2)):=fun d ts' hd h=>(hE false d ts' hd h).mono fun e he=>he.2
 have hC0:RC0 rn cn (C0 (ts.length+2)):=fun d e ts' hd he h=>call_rg hE (ts.length+2) d e he ts' hd h
 have hB0:RB0 rn cn (B0 (ts.length+2)):=fun d ts' hd h=>blk_rg hE0 hC0 _ _ d ts' hd h
 have hA':∀t∈ts++[endT n],TokR rn cn t:=by
  intro t ht
  rcases List.mem_append.1 ht with ht | ht
  ·exact hA t ht
  ·rw [List.mem_singleton.1 ht]
   exact ⟨fun h=>absurd h (by simp [endT]),fun h=>absurd h (by simp [endT])⟩
 have hm:Rg (TokR rn cn) (fun m:Mo=>errM rn cn m=0∧∀d∈m.decls,NnD d) (mdl (ts.length+2) (ts++[endT n])):=by
  unfold mdl
  refine (must_rg _ _ _ _ hA').bd fun _ ts _ h=>(name_rg false ts h).bd fun x ts hx h=>(must_rg _ _ _ _ h).bd fun _ ts _ h=>(imps_rg _ [] ts (by simp) (by simp) h).bd fun is ts his h=>(dcls_rg hE0 hB0 _ _ [] ts (by simp) (by simp) h).bd fun ds ts hds h=>Rg.ok ⟨?_,fun d hd=>(hds.1 d hd).2⟩ h
  have h1:¬16<is.length:=by have:=his.2;omega
  have h2:¬64<ds.length:=by have:=hds.2;omega
  simp [errM,hx.2,orE,h1,h2,errI_oR is his.1,errDs_oR ds hds.1]
 unfold parT whole at h
 split at h
 ·cases h
 ·cases h
 ·rename_i a t heq
  rw [heq] at hm
  simp only [Option.some.injEq,Prod.mk.injEq] at h
  rw [←h.1]
  exact hm.1
 ·cases h
 ·cases h
end Pz
end Go.Proofs.YteijjaabngkbjaaGreatDoor
namespace Go.Proofs.YteijjaabngkbjaaGreatDoor
namespace Lx
variable (words:List By) (V:Nat→By→Int × Int × Int)
theorem toks_all {p:Nat} {u:By} {ts:List Tok} (h:Toks words V p u ts):∀t∈ts,∃r,kindLen words (t.x++r)=(t.k,t.x.length)∧t.x≠[]∧V t.k t.x=(t.ty,t.b,0):=by
 induction h with
 | done p=>intro t h;simp at h
 | more p x r k ty b ts hk hx hg hv h ih =>
   intro t ht
   rcases List.mem_cons.1 ht with rfl | ht
   ·exact ⟨r,hk,hx,hv⟩
   ·exact ih t ht
end Lx
end Go.Proofs.YteijjaabngkbjaaGreatDoor
namespace Go.Proofs.YteijjaabngkbjaaGreatDoor.F
open Go.RowKit Fl
theorem canon_lt {a:Int} (h0:0≤a) (h:a≤9218868437227405312):canonS a=a:=by
 unfold canonS nan
 rw [if_neg]
 simp only [decide_eq_true_eq]
 omega
theorem rs_pos (l:List UInt8):0≤(rsS l).1∧(rsS l).1<9223372036854775808∧canonS (rsS l).1=(rsS l).1:=by
 unfold rsS
 repeat' split
 ·exact ⟨by simp,by simp,by decide⟩
 ·exact ⟨by simp,by simp,by decide⟩
 ·exact ⟨by simp,by simp,by decide⟩
 ·exact ⟨by simp,by simp,by decide⟩
 ·exact ⟨by simp,by simp,by decide⟩
 ·rename_i h
  generalize cut1 (Lib.trimPrefix l [48,120,49]) 112=q at *
  have h1:=rfS_lt q.1
  have h2:=reS_ok q.2.1 (by
   cases e:(reS q.2.1).2
   ·exact absurd (Or.inr e) h
   ·rfl)
  have:=join_U _ _ h1 h2.1 h2.2
  exact ⟨by simp,by simp only;omega,canon_lt (by simp) (by simp only;omega)⟩
theorem parse_pos (c:UInt8) (z:List UInt8) (hc:c≠45) (h:(parseS (c::z)).2=0):0≤(parseS (c::z)).1∧(parseS (c::z)).1<9223372036854775808∧canonS (parseS (c::z)).1=(parseS (c::z)).1:=by
 have hp:Lib.hasPrefix (c::z) [45]=false:=by
  cases hh:Lib.hasPrefix (c::z) [45]
  ·rfl
  ·exfalso
   have:45=c:=by simpa [Lib.hasPrefix] using hh
   exact hc this.symm
 have key:signed_ (Lib.hasPrefix (c::z) [45]) (rsS (Lib.trimPrefix (c::z) [45])).1=(rsS (Lib.trimPrefix (c::z) [45])).1:=by rw [hp];rfl
 unfold parseS at h ⊢
 split
 ·simp only
  rw [key]
  exact rs_pos _
 ·rename_i hn
  rw [if_neg hn] at h
  exact absurd h (by decide)
theorem quo_pos (m k:Nat) (hm:m≤9007199254740992) (hk:k≤9007199254740992) (hk0:k≠0):quoS m k≤9218868437227405312:=by
 obtain ⟨rm,h1⟩:=rep_of m hm
 obtain ⟨rk,h2⟩:=rep_of k hk
 have z:rk≠0:=fun h=>hk0 ((rep_zero k rk h2).1 h)
 unfold quoS
 rw [fi_word (m:Int) rm (by simpa using h1),fi_word (k:Int) rk (by simpa using h2)]
 change (Ieee.double.div _ _).getD 0≤_
 unfold Ieee.Format.div
 rw [read_word _ _ h1.1,read_word _ _ h2.1]
 simp only [Ieee.Datum.quotient]
 rw [if_neg (mag_pos rk z)]
 simp only [Option.map_some,Ieee.Format.write,Option.getD_some]
 rw [nearest_rung,word_f]
 have e1:decide ((m:Int)<0)=false:=decide_eq_false (by omega)
 have e2:decide ((k:Int)<0)=false:=decide_eq_false (by omega)
 rw [e1,e2]
 simp only [bne_self_eq_false,Bool.false_eq_true,if_false,Bool.xor_self]
 exact rung_le _ _
theorem lit_pos (s:List UInt8) (h:(litS s).2=0):0≤(litS s).1∧(litS s).1<9223372036854775808∧canonS (litS s).1=(litS s).1:=by
 unfold litS at *
 split at h
 ·rename_i hg
  rw [if_pos hg]
  split at h
  ·exact absurd h (by decide)
  ·rename_i hlen
   rw [if_neg hlen]
   generalize cut1 s 46=q at *
   rw [Bool.and_eq_true,Bool.and_eq_true] at hg
   have ga:(q.1++q.2.1).all isd=true:=by
    have g1:=hg.1.2
    have g2:=hg.2
    unfold allD at g1 g2
    rw [Bool.and_eq_true] at g1 g2
    rw [List.all_append,g1.1,g2.1]
    rfl
   have hn:=numD_lt (q.1++q.2.1) 0 0 ga (by decide)
   rw [Nat.zero_add,List.length_append] at hn
   have hp:10 ^ (q.1.length+q.2.1.length)≤10 ^ 15:=Nat.pow_le_pow_right (by decide) (by omega)
   have hp2:10 ^ q.2.1.length≤10 ^ 15:=Nat.pow_le_pow_right (by decide) (by omega)
   have hp0:0<10 ^ q.2.1.length:=Nat.pow_pos (by decide)
   have hm:numD (q.1++q.2.1)≤9007199254740992:=by
    have:numD (q.1++q.2.1)<10 ^ (q.1.length+q.2.1.length):=hn
    have:(10:Nat) ^ 15=1000000000000000:=by decide
    omega
   have hk:10 ^ q.2.1.length≤9007199254740992:=by
    have:(10:Nat) ^ 15=1000000000000000:=by decide
    omega
   have:=quo_pos (numD (q.1++q.2.1)) (10 ^ q.2.1.length) hm hk (by omega)
   exact ⟨by simp,by simp only;omega,canon_lt (by simp) (by simp only;omega)⟩
 ·exact absurd h (by decide)
end Go.Proofs.YteijjaabngkbjaaGreatDoor.F
namespace Go.Proofs.YteijjaabngkbjaaGreatDoor
open Go.RowKit Lx Te
theorem nat_pos (l:Bs) (h:(I.natS l).2.2=0):0≤(I.natS l).1∧(I.natS l).1<9223372036854775808:=by
 unfold I.natS I.amtS at *
 by_cases a:I.runD l<l.length
 ·rw [if_pos a] at h;exact absurd h (by simp)
 rw [if_neg a] at *
 by_cases b:l.length=0
 ·rw [if_pos b] at h;exact absurd h (by decide)
 rw [if_neg b] at *
 by_cases c:1<l.length∧l.head?=some 48
 ·rw [if_pos c] at h;exact absurd h (by decide)
 rw [if_neg c] at *
 by_cases d:9223372036854775807<I.numD l
 ·rw [if_pos d] at h;exact absurd h (by decide)
 rw [if_neg d] at *
 exact ⟨by simp,by simp only;omega⟩
theorem tw_all (p:UInt8→Bool):∀(l:Bs),∀d∈l.takeWhile p,p d=true
 | [],d,hd=>by simp at hd
 | c::r,d,hd=>by
   rw [List.takeWhile_cons] at hd
   split at hd
   ·rcases List.mem_cons.1 hd with rfl | hd
    ·assumption
    ·exact tw_all p r d hd
   ·simp at hd
theorem tw_take (p:UInt8→Bool):∀(l:Bs),l.take (l.takeWhile p).length=l.takeWhile p
 | []=>rfl
 | c::r=>by
   rw [List.takeWhile_cons]
   split
   ·rw [List.length_cons,List.take_succ_cons,tw_take p r]
   ·rfl
theorem tok_r {l:By} {ts:List Tok} (h:lexS wordsL valS l=(ts,0,0)):∀t∈ts,Pz.TokR rnS cnS t:=by
 rcases toks_of_lexS wordsL valS l ts 0 0 h with ⟨_,_,_,_,hT⟩ | ⟨h0,_⟩
 ·intro t ht
  obtain ⟨r,hk,hx,hv⟩:=toks_all wordsL valS hT t ht
  obtain ⟨k,x,ty,b,p⟩:=t
  simp only at hk hx hv
  obtain ⟨c,z,rfl⟩:∃c z,x=c::z:=by
   cases x with
   | nil=>exact absurd rfl hx
   | cons c z=>exact ⟨c,z,rfl⟩
  rw [List.cons_append,kind_cons] at hk
  have knum:∀l',(numLen l').1=3∨(numLen l').1=4:=by
   intro l'
   unfold numLen
   split
   ·exact Or.inr rfl
   ·split
    ·exact Or.inr rfl
    ·exact Or.inl rfl
  constructor
  ·intro h1
   simp only at h1
   subst h1
   split at hk
   ·have:=knum (c::(z++r))
    rw [hk] at this
    simp at this
   ·split at hk
    ·rename_i hd hl
     simp only [Prod.mk.injEq] at hk
     have hw:¬(c::(z++r)).take (run nmB (c::(z++r)))∈wordsL:=by
      intro hw
      have h1:=hk.1
      rw [if_pos hw] at h1
      exact absurd h1 (by decide)
     have hx':(c::(z++r)).take (run nmB (c::(z++r)))=c::z:=by
      rw [hk.2,←List.cons_append,List.take_left]
     rw [hx'] at hw
     have hall:∀d∈c::z,nmB d=true:=by
      intro d hd
      rw [←hx'] at hd
      unfold run at hd
      rw [tw_take] at hd
      exact tw_all nmB _ d hd
     unfold valS at hv
     rw [if_pos rfl] at hv
     simp only [Prod.mk.injEq] at hv
     have h32:¬32<(c::z).length:=by
      intro hc
      have:=hv.2.2
      rw [if_pos hc] at this
      exact absurd this (by decide)
     show N.rightS (c::z)=0
     unfold N.rightS
     have hsp:N.speltS (c::z)=true:=by
      rw [N.spelt_cons (c::z) c rfl,Bool.and_eq_true]
      refine ⟨?_,?_⟩
      ·simp only [N.letB,ltr,Bool.or_eq_true,Bool.and_eq_true,decide_eq_true_eq,beq_iff_eq] at hl ⊢
       exact hl
      ·rw [List.all_eq_true]
       intro d hd
       have:=hall d hd
       simp only [N.ld,N.letB,N.digB,nmB,dgt,ltr,Bool.or_eq_true,Bool.and_eq_true,decide_eq_true_eq,beq_iff_eq] at this ⊢
       exact this.symm
     rw [if_pos hsp,if_neg h32,if_neg (show ¬c::z∈N.wordsL from hw)]
    ·simp at hk
  ·intro h34
   simp only at h34
   have hd:dgt c=true:=by
    split at hk
    ·assumption
    ·split at hk
     ·simp only [Prod.mk.injEq] at hk
      have:=hk.1
      split at this<;>omega
     ·simp only [Prod.mk.injEq] at hk
      omega
   have hc45:c≠45:=by
    rintro rfl
    exact absurd hd (by decide)
   unfold valS at hv
   rw [if_neg (by omega)] at hv
   rcases h34 with rfl | rfl
   ·rw [if_pos rfl] at hv
    split at hv
    ·rename_i h0
     simp only [Prod.mk.injEq] at hv
     obtain ⟨rfl,rfl,_⟩:=hv
     have:=nat_pos _ h0
     exact ⟨by simpa [litOk] using this.2,this.1⟩
    ·rename_i h0
     simp only [Prod.mk.injEq] at hv
     exact absurd hv.2.2 h0
   ·rw [if_neg (by decide),if_pos rfl] at hv
    split at hv
    ·split at hv
     ·rename_i h0
      simp only [Prod.mk.injEq] at hv
      obtain ⟨rfl,rfl,_⟩:=hv
      have:=F.parse_pos c z hc45 h0
      exact ⟨by simp only [litOk];simp;exact ⟨this.2.1,this.2.2⟩,this.1⟩
     ·rename_i h0
      simp only [Prod.mk.injEq] at hv
      exact absurd hv.2.2 h0
    ·split at hv
     ·rename_i h0
      simp only [Prod.mk.injEq] at hv
      obtain ⟨rfl,rfl,_⟩:=hv
      have:=F.lit_pos (c::z) h0
      exact ⟨by simp only [litOk];simp;exact ⟨this.2.1,this.2.2⟩,this.1⟩
     ·rename_i h0
      simp only [Prod.mk.injEq] at hv
      exact absurd hv.2.2 h0
 ·exact absurd rfl h0
end Go.Proofs.YteijjaabngkbjaaGreatDoor
namespace Go.Proofs.YteijjaabngkbjaaGreatDoor
open Go.RowKit Lx Te
theorem okN_r {x:Bs} (h:rnS x=0):OkN x:=by have:=rn_len h;unfold OkN;omega
theorem okN_0 {x:Bs} (h:x=[]):OkN x:=by subst h;unfold OkN;simp
theorem lit_r {vt vb:Int} (h:litOk cnS vt vb=true):(vt=1∨vt=2∨vt=3)∧vb<9223372036854775808:=by
 unfold litOk at h
 split at h
 ·exact ⟨by omega,by simpa using h⟩
 ·split at h
  ·rw [Bool.and_eq_true] at h;exact ⟨by omega,by simpa using h.1⟩
  ·split at h
   ·have:vb≤1:=by simpa using h
    exact ⟨by omega,by omega⟩
   ·cases h
theorem okE_of {h:EH} {n:Nat} (he:errH rnS cnS h n=0) (h0:0≤h.vb):OkE h:=by
 unfold errH at he
 obtain ⟨e1,e2⟩:=Pz.orE_0 he
 obtain ⟨e2,_⟩:=Pz.orE_0 e2
 have hf:=Pz.ifx (c:=fitsE cnS h n=true) e1 (by decide)
 unfold fitsE at hf
 unfold nameE at e2
 by_cases k1:h.kind=1
 ·rw [if_pos k1,Bool.and_eq_true,decide_eq_true_eq] at hf
  obtain ⟨a1,a2,a3,a4,_⟩:=hf
  have:=lit_r a1
  exact ⟨⟨by omega,by omega⟩,⟨by omega,by omega⟩,⟨by omega,by omega⟩,h0,by omega,okN_0 a3,okN_0 a4⟩
 rw [if_neg k1] at hf
 by_cases k2:h.kind=2
 ·rw [if_pos k2,decide_eq_true_eq] at hf
  rw [if_pos (Or.inl k2)] at e2
  exact ⟨⟨by omega,by omega⟩,⟨by omega,by omega⟩,⟨by omega,by omega⟩,h0,by omega,okN_0 hf.2.1,okN_r e2⟩
 rw [if_neg k2] at hf
 by_cases k3:h.kind=3
 ·rw [if_pos k3,decide_eq_true_eq] at hf
  rw [if_neg (by omega),if_pos (Or.inl k3)] at e2
  obtain ⟨a,b⟩:=Pz.orE_0 e2
  exact ⟨⟨by omega,by omega⟩,⟨by omega,by omega⟩,⟨by omega,by omega⟩,h0,by omega,okN_r a,okN_r b⟩
 rw [if_neg k3] at hf
 by_cases k4:h.kind=4
 ·rw [if_pos k4,decide_eq_true_eq] at hf
  rw [if_pos (Or.inr k4)] at e2
  exact ⟨⟨by omega,by omega⟩,⟨by omega,by omega⟩,⟨by omega,by omega⟩,h0,by omega,okN_0 hf.2.1,okN_r e2⟩
 rw [if_neg k4] at hf
 by_cases k5:h.kind=5
 ·rw [if_pos k5,decide_eq_true_eq] at hf
  rw [if_neg (by omega),if_pos (Or.inr k5)] at e2
  obtain ⟨a,b⟩:=Pz.orE_0 e2
  exact ⟨⟨by omega,by omega⟩,⟨by omega,by omega⟩,⟨by omega,by omega⟩,h0,by omega,okN_r a,okN_r b⟩
 rw [if_neg k5] at hf
 by_cases k6:h.kind=6
 ·rw [if_pos k6,decide_eq_true_eq] at hf
  obtain ⟨a1,a2,a3,a4,a5,a6,a7⟩:=hf
  exact ⟨⟨by omega,by omega⟩,⟨by omega,by omega⟩,⟨by omega,by omega⟩,h0,by omega,okN_0 a4,okN_0 a5⟩
 rw [if_neg k6] at hf
 by_cases k7:h.kind=7
 ·rw [if_pos k7,decide_eq_true_eq] at hf
  obtain ⟨a1,a2,a3,a4,a5,a6,a7⟩:=hf
  exact ⟨⟨by omega,by omega⟩,⟨by omega,by omega⟩,⟨by omega,by omega⟩,h0,by omega,okN_0 a4,okN_0 a5⟩
 rw [if_neg k7] at hf
 by_cases k8:h.kind=8
 ·rw [if_pos k8,decide_eq_true_eq] at hf
  obtain ⟨a1,a2,a3,a4,a5,a6⟩:=hf
  exact ⟨⟨by omega,by omega⟩,⟨by omega,by omega⟩,⟨by omega,by omega⟩,h0,by omega,okN_0 a2,okN_0 a3⟩
 rw [if_neg k8] at hf
 cases hf
theorem okX_of:∀(k:Exs),errL rnS cnS k=0→Pz.NnX k→OkX k
 | .nil,_,_=>trivial
 | .cons h k r,he,hn=>by
   obtain ⟨hh,hr⟩:=Pz.RX_kid he
   exact ⟨okE_of hh.1 hn.1,okX_of k hh.2 hn.2.1,okX_of r hr hn.2.2⟩
theorem okS_of:∀(k:Sts),errS rnS cnS k=0→Pz.NnS k→OkS k
 | .nil,_,_=>trivial
 | .cons h e b l r,he,⟨n1,n2,n3,n4⟩=>by
   rw [errS] at he
   obtain ⟨a1,a2⟩:=Pz.orE_0 he
   obtain ⟨a3,a4⟩:=Pz.orE_0 a1
   obtain ⟨a5,a6⟩:=Pz.orE_0 a4
   obtain ⟨a7,a8⟩:=Pz.orE_0 a6
   have hh:I64 h.kind∧OkN h.name:=by
    unfold errSH at a3
    obtain ⟨q1,q2⟩:=Pz.orE_0 a3
    have hf:=Pz.ifx (c:=fitsS h e b.len l.len=true) q1 (by decide)
    unfold nameS at q2
    unfold fitsS at hf
    by_cases k12:h.kind=1∨h.kind=2
    ·rw [if_pos (by omega)] at q2
     exact ⟨⟨by omega,by omega⟩,okN_r q2⟩
    rw [if_neg k12] at hf
    by_cases k3:h.kind=3
    ·rw [if_pos k3,decide_eq_true_eq] at hf
     exact ⟨⟨by omega,by omega⟩,okN_0 hf.2⟩
    rw [if_neg k3] at hf
    by_cases k4:h.kind=4
    ·rw [if_pos k4,decide_eq_true_eq] at hf
     exact ⟨⟨by omega,by omega⟩,okN_0 hf.2.1⟩
    rw [if_neg k4] at hf
    by_cases k5:h.kind=5
    ·rw [if_pos k5,decide_eq_true_eq] at hf
     exact ⟨⟨by omega,by omega⟩,okN_0 hf.2.1⟩
    rw [if_neg k5] at hf
    by_cases k67:h.kind=6∨h.kind=7
    ·rw [if_pos k67,decide_eq_true_eq] at hf
     exact ⟨⟨by omega,by omega⟩,okN_0 hf.2.1⟩
    rw [if_neg k67] at hf
    by_cases k8:h.kind=8
    ·rw [if_pos (by omega)] at q2
     exact ⟨⟨by omega,by omega⟩,okN_r q2⟩
    rw [if_neg k8] at hf
    by_cases k9:h.kind=9
    ·rw [if_pos k9,decide_eq_true_eq] at hf
     exact ⟨⟨by omega,by omega⟩,okN_0 hf.2.2.1⟩
    rw [if_neg k9] at hf
    cases hf
   exact ⟨hh.1,hh.2,okX_of e a5 n1,okS_of b a7 n2,okS_of l a8 n3,okS_of r a2 n4⟩
theorem okD_of {d:De} (he:errD rnS cnS d=0) (hn:Pz.NnD d):OkD d:=by
 unfold errD at he
 obtain ⟨a1,a2⟩:=Pz.orE_0 he
 obtain ⟨a3,a4⟩:=Pz.orE_0 a2
 obtain ⟨a5,a6⟩:=Pz.orE_0 a4
 obtain ⟨a7,a8⟩:=Pz.orE_0 a6
 obtain ⟨a9,b1⟩:=Pz.orE_0 a8
 obtain ⟨b2,b3⟩:=Pz.orE_0 b1
 have hf:=Pz.ifx (c:=fitsD d=true) a3 (by decide)
 have hh:I64 d.kind∧I64 d.type:=by
  unfold fitsD at hf
  by_cases k1:d.kind=1
  ·rw [if_pos k1,Bool.and_eq_true] at hf
   have:=isTy_c hf.1
   exact ⟨⟨by omega,by omega⟩,⟨by omega,by omega⟩⟩
  rw [if_neg k1] at hf
  by_cases k2:d.kind=2
  ·rw [if_pos k2,Bool.and_eq_true,Bool.and_eq_true] at hf
   have:=isTy_c hf.1.2
   exact ⟨⟨by omega,by omega⟩,⟨by omega,by omega⟩⟩
  rw [if_neg k2] at hf
  by_cases k3:d.kind=3
  ·rw [if_pos k3,Bool.and_eq_true,Bool.or_eq_true] at hf
   have:d.type=0∨d.type=1∨d.type=2∨d.type=3:=by
    rcases hf.1 with h | h
    ·exact Or.inl (by simpa using h)
    ·exact isTy_c h
   exact ⟨⟨by omega,by omega⟩,⟨by omega,by omega⟩⟩
  rw [if_neg k3] at hf
  cases hf
 refine ⟨hh.1,hh.2,okN_r a5,fun p hp=>?_,okX_of _ b2 hn.1,okS_of _ b3 hn.2⟩
 have:=Pz.errP_of _ a9 p hp
 have h2:=isTy_c this.2
 exact ⟨okN_r this.1,⟨by omega,by omega⟩⟩
theorem errI_mem:∀(l:List Bs),errI rnS l=0→∀x∈l,rnS x=0
 | [],_,x,hx=>by simp at hx
 | y::r,h,x,hx=>by
   obtain ⟨h1,h2⟩:=Pz.orE_0 h
   rcases List.mem_cons.1 hx with rfl | hx
   ·exact h1
   ·exact errI_mem r h2 x hx
theorem okM_of {m:Mo} (he:errM rnS cnS m=0) (hn:∀d∈m.decls,Pz.NnD d):OkM m:=by
 have hd:=errM_decls he
 unfold errM at he
 obtain ⟨a1,a2⟩:=Pz.orE_0 he
 obtain ⟨_,a4⟩:=Pz.orE_0 a2
 obtain ⟨a5,_⟩:=Pz.orE_0 a4
 exact ⟨okN_r a1,fun x hx=>okN_r (errI_mem _ a5 x hx),fun d hdm=>okD_of (hd d hdm) (hn d hdm)⟩
theorem read_right {l:By} {ts:List Tok} {m:Mo} (h1:lexS wordsL valS l=(ts,0,0)) (h2:Pz.parT ts l.length=some (some m,0,0)) (h3:ts.length≤1024) :
 errM rnS cnS m=0∧(∀d∈m.decls,Pz.NnD d)∧OkM m∧m.imports.length+Pz.fDs m.decls≤10000000:=by
 obtain ⟨a,b⟩:=Pz.parT_right (rn:=rnS) (cn:=cnS) (by decide) (by decide) ts l.length m 0 0 (tok_r h1) h2
 have:=Pz.parT_sz ts l.length m 0 0 h2
 exact ⟨a,b,okM_of a b,by omega⟩
end Go.Proofs.YteijjaabngkbjaaGreatDoor
namespace Go.Proofs.YteijjaabngkbjaaGreatDoor
open Go.RowKit Lx Te
theorem alive7_any (w:World) (ht:F.Tab w):Calls Tryz.prog 13 #[] w fun e w'=>e = .returned (.bool true)∧Fr (fun _=>False) w w':=by
 have kA:Calls Tryz.prog 31 #[.string ⟨#[49,32,43,32,50,32,42,32,120]⟩] w fun e w'=>∃ao cap,e = .returned (.tuple #[.agg #[.int .i64 7,.int .i64 1,.string ⟨#[]⟩,.string ⟨#[]⟩,.int .i64 0,.int .u64 0,.slice ao 2 cap],.int .i64 0,.int .i64 0])∧ExL w' ao cap (.cons ⟨1,0,[],[],1,1⟩ .nil (.cons ⟨7,3,[],[],0,0⟩ (.cons ⟨1,0,[],[],1,2⟩ .nil (.cons ⟨2,0,[],[120],0,0⟩ .nil .nil)) .nil))∧Fr (fun _=>False) w w':=xpr_any liveA _ 0 0 (by decide) liveA_is w ht
 have kB:∀w,F.Tab w→Calls Tryz.prog 31 #[.string ⟨#[97,32,60,32,98,32,60,32,99]⟩] w fun e w'=>∃ao cap,e = .returned (.tuple #[.agg #[.int .i64 0,.int .i64 0,.string ⟨#[]⟩,.string ⟨#[]⟩,.int .i64 0,.int .u64 0,.slice ao 0 cap],.int .i64 6,.int .i64 11])∧ExL w' ao cap .nil∧Fr (fun _=>False) w w':=fun w ht=>xpr_any liveB _ 6 11 (by decide) liveB_is w ht
 have kC:∀w,F.Tab w→Calls Tryz.prog 14 #[.string ⟨#[109,111,100,117,108,101,32,109,59,32,102,110,32,102,40,97,58,32,105,110,116,41,58,32,98,111,111,108,32,123,32,114,101,116,117,114,110,32,97,32,62,32,48,59,32,125]⟩] w fun e w'=>∃ao cap ao' cap',e = .returned (.tuple #[.agg #[.string ⟨#[109]⟩,.slice ao 0 cap,.slice ao' 1 cap'],.int .i64 0,.int .i64 0])∧SvL w' ao cap []∧DeL w' ao' cap' [⟨3,false,[102],3,[⟨[97],1⟩],.nil,.cons ⟨5,[]⟩ (.cons ⟨7,10,[],[],0,0⟩ (.cons ⟨2,0,[],[97],0,0⟩ .nil (.cons ⟨1,0,[],[],1,0⟩ .nil .nil)) .nil) .nil .nil .nil⟩]∧Fr (fun _=>False) w w':=fun w ht=>par_any liveC _ 0 0 (by decide) liveC_is w ht
 go_enter Tryz.func13,Tryz.ntmps13
 go_wp2_with fail
 go_at_call 31
 refine kA.mono ?_
 rintro e W1 ⟨ao1,cap1,rfl,hx,f1⟩
 obtain ⟨hl1,hm1,h0 | ⟨b1,off1,rfl,hA⟩⟩:=hx
 ·simp [Exs.len] at h0
 obtain ⟨_,⟨ao5,cap5,hc5,_⟩,_⟩:=hA
 have hop:W1.cell? ⟨b1,off1+7+1,none⟩=some (.int .i64 3):=hc5 1 _ rfl
 have hm1':cap1≤9223372036854775807:=by unfold maxLen at hm1;omega
 have hl1':2≤cap1:=hl1
 have fa:=Fr.alloc (fun _=>False) W1 (.cells #[.int .i64 7,.int .i64 1,.string ⟨#[]⟩,.string ⟨#[]⟩,.int .i64 0,.int .u64 0,.slice (some ⟨b1,off1,none⟩) 2 cap1] 59)
 have hn1:Hidden ((W1.alloc (.cells #[.int .i64 7,.int .i64 1,.string ⟨#[]⟩,.string ⟨#[]⟩,.int .i64 0,.int .u64 0,.slice (some ⟨b1,off1,none⟩) 2 cap1] 59)).heap[W1.heap.size]?=some (.cells #[.int .i64 7,.int .i64 1,.string ⟨#[]⟩,.string ⟨#[]⟩,.int .i64 0,.int .u64 0,.slice (some ⟨b1,off1,none⟩) 2 cap1] 59 (0,0))):=alloc_new _ _
 clear hc5 hl1 hm1
 go_wp2_with fail
 go_at_call 31
 refine (kB _ (tab_fr ht (f1.same fa))).mono ?_
 rintro e W2 ⟨ao2,cap2,rfl,hx2,f2⟩
 have fb:=Fr.alloc (fun _=>False) W2 (.cells #[.int .i64 0,.int .i64 0,.string ⟨#[]⟩,.string ⟨#[]⟩,.int .i64 0,.int .u64 0,.slice ao2 0 cap2] 59)
 have g2:=(f1.same fa).same (f2.same fb)
 go_wp2_with fail
 go_at_call 14
 refine (kC _ (tab_fr ht g2)).mono ?_
 rintro e W3 ⟨ao3,cap3,ao4,cap4,rfl,hs3,hd3,f3⟩
 obtain ⟨hl4,hm4,h0 | ⟨b4,off4,rfl,hD⟩⟩:=hd3
 ·cases h0
 obtain ⟨pv,ev,bv,⟨a1,p1,a2,p2,a3,p3,rfl,rfl,rfl,_,_,hst⟩,hcells⟩:=hD 0 _ rfl
 have hbody:W3.cell? ⟨b4,off4+6,none⟩=some (.slice a3 1 p3):=by
  have h:=hcells 6 _ rfl
  rw [show off4+0*7+6=off4+6 by omega] at h
  exact h
 have hp3:p3≤9223372036854775807:=by have:=hst.2.1;unfold maxLen at this;omega
 have hm4':cap4≤9223372036854775807:=by unfold maxLen at hm4;omega
 have hl4':1≤cap4:=hl4
 have hn3:=f3.heap (fb.heap (f2.heap hn1 (fun f=>f)) (fun f=>f)) (fun f=>f)
 have hop3:=f3.cellN (fb.cellN (f2.cellN (fa.cellN hop)))
 have fc:=Fr.alloc (fun _=>False) W3 (.cells #[.string ⟨#[109]⟩,.slice ao3 0 cap3,.slice (some ⟨b4,off4,none⟩) 1 cap4] 25)
 obtain ⟨x0,x1,x2,x3,x4,x5,x6,y0,y1,y2,y3,y4,y5,y6⟩:=box7 (fc.heap hn3 (fun f=>f))
 have hop4:=fc.cellN hop3
 have hbody4:=fc.cellN hbody
 clear hcells hD hl4 hm4 y0 y1 y2 y3 y4 y5 y6 hn3 hn1 hop hbody hop3
 go_wp2_with fail
 go_ret
 exact ⟨rfl,(g2.same f3).same fc⟩
end Go.Proofs.YteijjaabngkbjaaGreatDoor
namespace Go.Proofs.YteijjaabngkbjaaGreatDoor
open Go.RowKit Te
theorem ret_b {x y:Bool} (h:x=y):Ending.returned (.bool x) = .returned (.bool y):=by rw [h]
end Go.Proofs.YteijjaabngkbjaaGreatDoor
