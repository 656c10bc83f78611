/- PwF PwG PwH -/
import Derived.Test.YteijjaabngkbjaaGreatDoorPwE
import Derived.Deep.RegionHeld3
import Derived.RegionDies
set_option maxRecDepth 100000
set_option maxHeartbeats 40000000
set_option linter.unusedVariables false
set_option linter.unusedSimpArgs false
set_option linter.unusedSectionVars false
namespace Go.Proofs.YteijjaabngkbjaaGreatDoor
section
open Go.RowKit Lx Te
section
variable {E:Bool→Nat→List Tok→Pz.Ou Pz.Ex} (hE:CE E)
def CU (E:Bool→Nat→List Tok→Pz.Ou Pz.Ex) (g f:Nat):Prop:=∀(fl:Bool) (d:Nat) (ts:List Tok) (rs:Pz.Rs Pz.Ex) (q:Nat) (w:World),d≤32→Pz.un E g f fl d ts=some rs→Ps w q ts d fl →
 Calls Tryz.prog 153 #[pp q] w (Out TE q d w rs)
theorem sg_c (g f:Nat) (hU:CU E g f) (mark:Bs) (op:Int) (q:Nat) (ts:List Tok) (d:Nat) (hd:d≤32) (fl:Bool) (rs:Pz.Rs Pz.Ex)
 (hs:Hidden (Pz.bd (Pz.opn mark fl d ts) (fun _ ts=>Pz.bd (Pz.un E g f false (d+1) ts) fun e ts=>some (.ok (Pz.one op e) ts))=some rs)) (w:World) (h:Ps w q ts d fl) :
 Calls Tryz.prog 193 #[pp q,ct mark,ci op] w (Out TE q d w rs):=by
 have hq:=h.lt
 have f0:=Fr.alloc (fun _=>False) w ex0
 have g0:Fr (fun k=>k=q) w (w.alloc ex0):=frq f0
 have hP0:Hidden (Ps (w.alloc ex0) q ts d fl):=h.keepN f0
 have hb0:Hidden ((w.alloc ex0).heap[w.heap.size]?=some ex0):=alloc_new _ _
 clear h
 go_enter Tryz.func193,Tryz.ntmps193
 go_wp2_with fail
 go_at_call 196
 obtain ⟨r1,e1,hs⟩:=Pz.bd_some hs
 refine (opn_c q mark ts d hd fl r1 e1 _ hP0).mono ?_
 rcases r1 with ⟨u,ts1⟩ | ⟨p,c⟩
 rotate_left
 ·obtain rfl:rs = .er p c:=hs
  rintro e W1 ⟨rfl,f1⟩
  unfold gP
  go_wp2_with fail
  exact ⟨rfl,rfl,g0.same f1⟩
 rintro e W1 ⟨v1,rfl,rfl,hQ1,f1⟩
 have g1:=g0.same f1
 have s1:=f1.size
 have t1:=g1.size
 have hP1:Hidden (Ps W1 q ts1 (d+1) false):=hQ1
 clear hQ1
 simp only [World.size_alloc] at s1
 have hb0_1:Hidden (W1.heap[w.heap.size]?=some (ex0)):=f1.heap hb0 (by omega)
 have hd1:=Pz.opn_lt hd e1
 clear e1
 go_wp2_with fail
 go_at_call 153
 obtain ⟨r2,e2,hs⟩:=Pz.bd_some hs
 refine (hU false (d+1) ts1 r2 q _ hd1 e2 hP1).mono ?_
 clear e2
 rcases r2 with ⟨x,ts2⟩ | ⟨p,c⟩
 rotate_left
 ·obtain rfl:rs = .er p c:=hs
  rintro e W2 ⟨rfl,f2⟩
  unfold gP
  go_wp2_with fail
  exact ⟨rfl,rfl,g1.same f2⟩
 rintro e W2 ⟨v2,rfl,⟨ao,cap,rfl,hN⟩,hQ2,f2⟩
 have g2:=g1.same f2
 have s2:=f2.size
 have t2:=g2.size
 have hP2:Hidden (Ps W2 q ts2 (d+1) false):=hQ2
 clear hQ2
 have hb0_2:Hidden (W2.heap[w.heap.size]?=some (ex0)):=f2.heap hb0_1 (by omega)
 have hB:=hN.weak (B':=w.heap.size+1) (by omega)
 go_wp2_with fail
 go_at_call 221
 refine (one_c op (w.heap.size+1) x ao cap _ (by omega) hB).mono ?_
 rintro e W3 ⟨bo,capo,rfl,hO,F3⟩
 have f3:Fr (fun k=>k=q) _ W3:=frq F3
 have hQ3:=Ps.keepN hP2 F3
 have g3:=g2.same f3
 have s3:=f3.size
 have t3:=g3.size
 have hP3:Hidden (Ps W3 q ts2 (d+1) false):=hQ3
 clear hQ3
 have hb0_3:Hidden (W3.heap[w.heap.size]?=some (ex0)):=f3.heap hb0_2 (by omega)
 have fab1:=Fr.alloc (fun _=>False) W3 (.cells #[ci 6,ci op,.string ⟨#[]⟩,.string ⟨#[]⟩,ci 0,.int .u64 0,.slice (some ⟨bo,0,none⟩) 1 capo] 59)
 have gb1:Fr (fun k=>k=q) w (W3.alloc (.cells #[ci 6,ci op,.string ⟨#[]⟩,.string ⟨#[]⟩,ci 0,.int .u64 0,.slice (some ⟨bo,0,none⟩) 1 capo] 59)):=g3.same (frq fab1)
 have hPb1:Hidden (Ps (W3.alloc (.cells #[ci 6,ci op,.string ⟨#[]⟩,.string ⟨#[]⟩,ci 0,.int .u64 0,.slice (some ⟨bo,0,none⟩) 1 capo] 59)) q ts2 (d+1) false):=Ps.keepN hP3 fab1
 have hnb1:Hidden ((W3.alloc (.cells #[ci 6,ci op,.string ⟨#[]⟩,.string ⟨#[]⟩,ci 0,.int .u64 0,.slice (some ⟨bo,0,none⟩) 1 capo] 59)).heap[W3.heap.size]?=some (.cells #[ci 6,ci op,.string ⟨#[]⟩,.string ⟨#[]⟩,ci 0,.int .u64 0,.slice (some ⟨bo,0,none⟩) 1 capo] 59)):=alloc_new _ _
 have hb0_b1:Hidden ((W3.alloc (.cells #[ci 6,ci op,.string ⟨#[]⟩,.string ⟨#[]⟩,ci 0,.int .u64 0,.slice (some ⟨bo,0,none⟩) 1 capo] 59)).heap[w.heap.size]?=some (ex0)):=fab1.heap hb0_3 (fun f=>f)
 obtain ⟨dc,dz⟩:=Ps.deep hPb1
 have dc2:(W3.alloc (.cells #[ci 6,ci op,.string ⟨#[]⟩,.string ⟨#[]⟩,ci 0,.int .u64 0,.slice (some ⟨bo,0,none⟩) 1 capo] 59)).cell? ⟨q,1,none⟩=some (ci ((d:Int)+1)):=dc
 clear dc
 go_upto_region 4 with fail
 have fp:=Fr.put (W3.alloc (.cells #[ci 6,ci op,.string ⟨#[]⟩,.string ⟨#[]⟩,ci 0,.int .u64 0,.slice (some ⟨bo,0,none⟩) 1 capo] 59)) q 1 (ci (d:Int))
 have hPd:Hidden (Ps ((W3.alloc (.cells #[ci 6,ci op,.string ⟨#[]⟩,.string ⟨#[]⟩,ci 0,.int .u64 0,.slice (some ⟨bo,0,none⟩) 1 capo] 59)).setCell ⟨q,1,none⟩ (ci (d:Int))) q ts2 d false):=Ps.setDeep hPb1 d
 have hb0d:((W3.alloc (.cells #[ci 6,ci op,.string ⟨#[]⟩,.string ⟨#[]⟩,ci 0,.int .u64 0,.slice (some ⟨bo,0,none⟩) 1 capo] 59)).setCell ⟨q,1,none⟩ (ci (d:Int))).heap[w.heap.size]?=some ex0:=fp.heap hb0_b1 (by omega)
 have hb1d:((W3.alloc (.cells #[ci 6,ci op,.string ⟨#[]⟩,.string ⟨#[]⟩,ci 0,.int .u64 0,.slice (some ⟨bo,0,none⟩) 1 capo] 59)).setCell ⟨q,1,none⟩ (ci (d:Int))).heap[W3.heap.size]?=some (.cells #[ci 6,ci op,.string ⟨#[]⟩,.string ⟨#[]⟩,ci 0,.int .u64 0,.slice (some ⟨bo,0,none⟩) 1 capo] 59):=fp.heap hnb1 (by omega)
 have gd:Fr (fun k=>k=q) w ((W3.alloc (.cells #[ci 6,ci op,.string ⟨#[]⟩,.string ⟨#[]⟩,ci 0,.int .u64 0,.slice (some ⟨bo,0,none⟩) 1 capo] 59)).setCell ⟨q,1,none⟩ (ci (d:Int))):=gb1.same fp
 have hOd:=(hO.step fab1 (fun _ f=>f.elim)).step fp (fun k hk=>by subst hk;omega)
 generalize (W3.alloc (.cells #[ci 6,ci op,.string ⟨#[]⟩,.string ⟨#[]⟩,ci 0,.int .u64 0,.slice (some ⟨bo,0,none⟩) 1 capo] 59)).setCell ⟨q,1,none⟩ (ci (d:Int))=W4 at fp hPd hb0d hb1d gd hOd ⊢
 have hb0H:Hidden (W4.heap[w.heap.size]?=some ex0):=hb0d
 obtain ⟨ac0,ac1,ac2,ac3,ac4,ac5,ac6,az0,az1,az2,az3,az4,az5,az6⟩:=box7 hb0d
 obtain ⟨bc0,bc1,bc2,bc3,bc4,bc5,bc6,bz0,bz1,bz2,bz3,bz4,bz5,bz6⟩:=box7 hb1d
 clear hb0d hb1d dz dc2 hO fp fab1 hN hB
 obtain rfl:rs = .ok (Pz.one op x) ts2:=(Option.some.inj (show some _=some rs from hs)).symm
 go_wp2_with fail
 have fs:=set7_fr W4 w.heap.size (ci 6) (ci op) (.string ⟨#[]⟩) (.string ⟨#[]⟩) (ci 0) (.int .u64 0) (.slice (some ⟨bo,0,none⟩) 1 capo)
 exact post_ex hb0H rfl rfl rfl ⟨_,rfl,⟨some ⟨bo,0,none⟩,capo,rfl,(hOd.step fs (fun k hk=>by subst hk;omega)).weak (by omega)⟩,Ps.high hPd fs (fun k hk=>by subst hk;exact hq),gd.over fs (fun k hk=>by subst hk;exact Nat.le_refl _)⟩
include hE in
theorem un_step (g f:Nat) (hg:g≤3000) (hU:CU E g f):CU E g (f+1):=by
 intro fl d ts rs q w hd hs0 h
 cases ts with
 | nil=>simp [Pz.un] at hs0
 | cons t r =>
   by_cases hx:t.x=[45]
   ·rw [Pz.un,if_pos hx] at hs0
    have hs:Hidden (_=some rs):=hs0
    clear hs0
    have hq:=h.lt
    have f0:=Fr.alloc (fun _=>False) w ex0
    have g0:Fr (fun k=>k=q) w (w.alloc ex0):=frq f0
    have hP0:Hidden (Ps (w.alloc ex0) q (t::r) d fl):=h.keepN f0
    have hb0:Hidden ((w.alloc ex0).heap[w.heap.size]?=some ex0):=alloc_new _ _
    clear h
    go_enter Tryz.func153,Tryz.ntmps153
    go_wp2_with fail
    go_at_call 65
    refine (is_any q [45] t r d fl true (by simp [Hidden,hx]) _ hP0).mono ?_
    rintro e W1 ⟨rfl,F1⟩
    have f1:Fr (fun k=>k=q) _ W1:=frq F1
    have hQ1:=Ps.keepN hP0 F1
    have g1:=g0.same f1
    have s1:=f1.size
    have t1:=g1.size
    have hP1:Hidden (Ps W1 q (t::r) d fl):=hQ1
    clear hQ1
    simp only [World.size_alloc] at s1
    have hb0_1:Hidden (W1.heap[w.heap.size]?=some (ex0)):=f1.heap hb0 (by omega)
    clear hx
    go_wp2_with fail
    go_at_call 193
    obtain ⟨r2,e2,hs⟩:∃r,_=some r∧Hidden (r=rs):=⟨rs,hs,rfl⟩
    refine (sg_c g f hU [45] 1 q (t::r) d hd fl r2 e2 _ hP1).mono ?_
    clear e2
    rcases r2 with ⟨x,ts2⟩ | ⟨p,c⟩
    rotate_left
    ·obtain rfl:.er p c=rs:=hs
     rintro e W2 ⟨rfl,f2⟩
     unfold gP
     go_wp2_with fail
     exact ⟨rfl,rfl,g1.same f2⟩
    rintro e W2 ⟨v2,rfl,⟨ao,cap,rfl,hN⟩,hQ2,f2⟩
    have g2:=g1.same f2
    have s2:=f2.size
    have t2:=g2.size
    have hP2:Hidden (Ps W2 q ts2 d false):=hQ2
    clear hQ2
    have hb0_2:Hidden (W2.heap[w.heap.size]?=some (ex0)):=f2.heap hb0_1 (by omega)
    obtain rfl:.ok x ts2=rs:=hs
    obtain ⟨b0c0,b0c1,b0c2,b0c3,b0c4,b0c5,b0c6,b0z0,b0z1,b0z2,b0z3,b0z4,b0z5,b0z6⟩:=box7 hb0_2
    go_wp2_with fail
    have fs:=set7_fr W2 w.heap.size (ci x.1.kind) (ci x.1.op) (ct x.1.mod) (ct x.1.name) (ci x.1.vt) (.int .u64 x.1.vb) (.slice ao x.2.len cap)
    exact post_ex hb0_2 rfl rfl rfl ⟨_,rfl,⟨ao,cap,rfl,(hN.step fs (fun k hk=>by subst hk;omega)).weak (by omega)⟩,Ps.high hP2 fs (fun k hk=>by subst hk;exact hq),g2.over fs (fun k hk=>by subst hk;exact Nat.le_refl _)⟩
   rw [Pz.un,if_neg hx] at hs0
   by_cases hy:t.x=[33]
   ·rw [if_pos hy] at hs0
    have hs:Hidden (_=some rs):=hs0
    clear hs0
    have hq:=h.lt
    have f0:=Fr.alloc (fun _=>False) w ex0
    have g0:Fr (fun k=>k=q) w (w.alloc ex0):=frq f0
    have hP0:Hidden (Ps (w.alloc ex0) q (t::r) d fl):=h.keepN f0
    have hb0:Hidden ((w.alloc ex0).heap[w.heap.size]?=some ex0):=alloc_new _ _
    clear h
    go_enter Tryz.func153,Tryz.ntmps153
    go_wp2_with fail
    go_at_call 65
    refine (is_any q [45] t r d fl false (by simpa [Hidden] using hx) _ hP0).mono ?_
    rintro e W1 ⟨rfl,F1⟩
    have f1:Fr (fun k=>k=q) _ W1:=frq F1
    have hQ1:=Ps.keepN hP0 F1
    have g1:=g0.same f1
    have s1:=f1.size
    have t1:=g1.size
    have hP1:Hidden (Ps W1 q (t::r) d fl):=hQ1
    clear hQ1
    simp only [World.size_alloc] at s1
    have hb0_1:Hidden (W1.heap[w.heap.size]?=some (ex0)):=f1.heap hb0 (by omega)
    clear hx
    go_wp2_with fail
    go_at_call 65
    refine (is_any q [33] t r d fl true (by simp [Hidden,hy]) _ hP1).mono ?_
    rintro e W2 ⟨rfl,F2⟩
    have f2:Fr (fun k=>k=q) _ W2:=frq F2
    have hQ2:=Ps.keepN hP1 F2
    have g2:=g1.same f2
    have s2:=f2.size
    have t2:=g2.size
    have hP2:Hidden (Ps W2 q (t::r) d fl):=hQ2
    clear hQ2
    have hb0_2:Hidden (W2.heap[w.heap.size]?=some (ex0)):=f2.heap hb0_1 (by omega)
    clear hy
    go_wp2_with fail
    go_at_call 193
    obtain ⟨r3,e3,hs⟩:∃r,_=some r∧Hidden (r=rs):=⟨rs,hs,rfl⟩
    refine (sg_c g f hU [33] 2 q (t::r) d hd fl r3 e3 _ hP2).mono ?_
    clear e3
    rcases r3 with ⟨x,ts3⟩ | ⟨p,c⟩
    rotate_left
    ·obtain rfl:.er p c=rs:=hs
     rintro e W3 ⟨rfl,f3⟩
     unfold gP
     go_wp2_with fail
     exact ⟨rfl,rfl,g2.same f3⟩
    rintro e W3 ⟨v3,rfl,⟨ao,cap,rfl,hN⟩,hQ3,f3⟩
    have g3:=g2.same f3
    have s3:=f3.size
    have t3:=g3.size
    have hP3:Hidden (Ps W3 q ts3 d false):=hQ3
    clear hQ3
    have hb0_3:Hidden (W3.heap[w.heap.size]?=some (ex0)):=f3.heap hb0_2 (by omega)
    obtain rfl:.ok x ts3=rs:=hs
    obtain ⟨b0c0,b0c1,b0c2,b0c3,b0c4,b0c5,b0c6,b0z0,b0z1,b0z2,b0z3,b0z4,b0z5,b0z6⟩:=box7 hb0_3
    go_wp2_with fail
    have fs:=set7_fr W3 w.heap.size (ci x.1.kind) (ci x.1.op) (ct x.1.mod) (ct x.1.name) (ci x.1.vt) (.int .u64 x.1.vb) (.slice ao x.2.len cap)
    exact post_ex hb0_3 rfl rfl rfl ⟨_,rfl,⟨ao,cap,rfl,(hN.step fs (fun k hk=>by subst hk;omega)).weak (by omega)⟩,Ps.high hP3 fs (fun k hk=>by subst hk;exact hq),g3.over fs (fun k hk=>by subst hk;exact Nat.le_refl _)⟩
   ·rw [if_neg hy] at hs0
    have hs:Hidden (_=some rs):=hs0
    clear hs0
    have hq:=h.lt
    have f0:=Fr.alloc (fun _=>False) w ex0
    have g0:Fr (fun k=>k=q) w (w.alloc ex0):=frq f0
    have hP0:Hidden (Ps (w.alloc ex0) q (t::r) d fl):=h.keepN f0
    have hb0:Hidden ((w.alloc ex0).heap[w.heap.size]?=some ex0):=alloc_new _ _
    clear h
    go_enter Tryz.func153,Tryz.ntmps153
    go_wp2_with fail
    go_at_call 65
    refine (is_any q [45] t r d fl false (by simpa [Hidden] using hx) _ hP0).mono ?_
    rintro e W1 ⟨rfl,F1⟩
    have f1:Fr (fun k=>k=q) _ W1:=frq F1
    have hQ1:=Ps.keepN hP0 F1
    have g1:=g0.same f1
    have s1:=f1.size
    have t1:=g1.size
    have hP1:Hidden (Ps W1 q (t::r) d fl):=hQ1
    clear hQ1
    simp only [World.size_alloc] at s1
    have hb0_1:Hidden (W1.heap[w.heap.size]?=some (ex0)):=f1.heap hb0 (by omega)
    clear hx
    go_wp2_with fail
    go_at_call 65
    refine (is_any q [33] t r d fl false (by simpa [Hidden] using hy) _ hP1).mono ?_
    rintro e W2 ⟨rfl,F2⟩
    have f2:Fr (fun k=>k=q) _ W2:=frq F2
    have hQ2:=Ps.keepN hP1 F2
    have g2:=g1.same f2
    have s2:=f2.size
    have t2:=g2.size
    have hP2:Hidden (Ps W2 q (t::r) d fl):=hQ2
    clear hQ2
    have hb0_2:Hidden (W2.heap[w.heap.size]?=some (ex0)):=f2.heap hb0_1 (by omega)
    clear hy
    go_wp2_with fail
    go_at_call 194
    obtain ⟨r3,e3,hs⟩:∃r,_=some r∧Hidden (r=rs):=⟨rs,hs,rfl⟩
    refine (pr_c hE g hg q (t::r) d hd fl r3 e3 _ hP2).mono ?_
    clear e3
    rcases r3 with ⟨x,ts3⟩ | ⟨p,c⟩
    rotate_left
    ·obtain rfl:.er p c=rs:=hs
     rintro e W3 ⟨rfl,f3⟩
     unfold gP
     go_wp2_with fail
     exact ⟨rfl,rfl,g2.same f3⟩
    rintro e W3 ⟨v3,rfl,⟨ao,cap,rfl,hN⟩,hQ3,f3⟩
    have g3:=g2.same f3
    have s3:=f3.size
    have t3:=g3.size
    have hP3:Hidden (Ps W3 q ts3 d false):=hQ3
    clear hQ3
    have hb0_3:Hidden (W3.heap[w.heap.size]?=some (ex0)):=f3.heap hb0_2 (by omega)
    obtain rfl:.ok x ts3=rs:=hs
    obtain ⟨b0c0,b0c1,b0c2,b0c3,b0c4,b0c5,b0c6,b0z0,b0z1,b0z2,b0z3,b0z4,b0z5,b0z6⟩:=box7 hb0_3
    go_wp2_with fail
    have fs:=set7_fr W3 w.heap.size (ci x.1.kind) (ci x.1.op) (ct x.1.mod) (ct x.1.name) (ci x.1.vt) (.int .u64 x.1.vb) (.slice ao x.2.len cap)
    exact post_ex hb0_3 rfl rfl rfl ⟨_,rfl,⟨ao,cap,rfl,(hN.step fs (fun k hk=>by subst hk;omega)).weak (by omega)⟩,Ps.high hP3 fs (fun k hk=>by subst hk;exact hq),g3.over fs (fun k hk=>by subst hk;exact Nat.le_refl _)⟩
include hE in
theorem un_c (g:Nat) (hg:g≤3000):∀f,CU E g f
 | 0=>fun fl d ts rs q w hd hs h=>by simp [Pz.un] at hs
 | f+1=>un_step hE g f hg (un_c g hg f)
end
theorem op_c (x:Bs) (w:World):Calls Tryz.prog 154 #[ct x] w fun e w'=>e = .returned (.tuple #[ci (Pz.opOf x).1,ci ((Pz.opOf x).2:Int)])∧w'=w:=by
 go_enter Tryz.func154,Tryz.ntmps154
 go_wp2
 all_goals (go_ret2;refine ⟨?_,rfl⟩)
 all_goals (simp only [beq_iff_eq,beq_eq_false_iff_ne,ne_eq] at *)
 all_goals (simp [Pz.opOf, *])
end
section
open Go.RowKit Lx Te
theorem wrap_s {z:Int} (h0 : -9223372036854775808≤z) (h1:z≤9223372036854775807):IntKind.i64.wrap z=z:=by
 simp only [IntKind.wrap,IntKind.bits,IntKind.signed]
 simp
 omega
def Nz (B z:Nat) (w:World) (P:World→Prop):Prop:=∀w',Fr (fun k=>k<B∨k=z) w w'→P w'
theorem Nz.step {B z:Nat} {S:Nat→Prop} {w w':World} {P:World→Prop} (h:Nz B z w P) (hf:Fr S w w') (hS:∀k,S k→k<B∨k=z):Nz B z w' P :=
 fun w'' hf'=>h w'' ((hf.mono (fun k _ hk=>hS k hk)).same hf')
theorem Nz.nw {B z:Nat} {w:World} {P:World→Prop} (h:Nz B z w P):Nw B w P:=fun w' hf=>h w' (hf.mono (fun k _ hk=>Or.inl hk))
theorem Nw.nz {B z:Nat} {w:World} {P:World→Prop} (h:Nw B w P) (hz:w.heap.size≤z):Nz B z w P:=fun w' hf=>h w' (hf.mono (fun k hk hs=>by omega))
theorem Nw.old {B B' z:Nat} {w:World} {P:World→Prop} (h:Nw B w P) (hz:z<B) (hB:B'≤B):Nz B' z w P:=fun w' hf=>h w' (hf.mono (fun k hk hs=>by omega))
theorem Nz.two {B z:Nat} {w:World} {x y:Pz.Ex} {ao ao2:Option Addr} {cap cap2 b:Nat} {t:TypeId} (hx:Nz B z w (fun w=>ExL w ao cap x.2)) (hy:Nz B z w (fun w=>ExL w ao2 cap2 y.2))
 (hb:w.heap[b]?=some (.cells #[ci x.1.kind,ci x.1.op,ct x.1.mod,ct x.1.name,ci x.1.vt,.int .u64 x.1.vb,.slice ao x.2.len cap,ci y.1.kind,ci y.1.op,ct y.1.mod,ct y.1.name,ci y.1.vt,.int .u64 y.1.vb,.slice ao2 y.2.len cap2] t (0,0))) (hB:B≤b) (hz:b≠z) :
 Nz B z w (fun w=>ExL w (some ⟨b,0,none⟩) 2 (.cons x.1 x.2 (.cons y.1 y.2 .nil))):=by
 intro w' hf
 have hx':=hx w' hf
 have hy':=hy w' hf
 have hb':=hf.heap hb (by omega)
 have hc:=fun j=>cell_of_row w' b j _ t (0,0) hb'
 refine ⟨Nat.le_refl _,by decide,Or.inr ⟨b,0,rfl,⟨⟨ao,cap,fun j u hu=>?_,hx'.1,hx'.2.1,hx'.2.2⟩,⟨ao2,cap2,fun j u hu=>?_,hy'.1,hy'.2.1,hy'.2.2⟩,trivial⟩⟩⟩
 ·rw [Nat.zero_add,hc j]
  have h7:j<7:=(List.getElem?_eq_some_iff.1 hu).1
  obtain rfl | rfl | rfl | rfl | rfl | rfl | rfl:j=0∨j=1∨j=2∨j=3∨j=4∨j=5∨j=6:=by omega
  all_goals exact hu
 ·have h7:j<7:=(List.getElem?_eq_some_iff.1 hu).1
  obtain rfl | rfl | rfl | rfl | rfl | rfl | rfl:j=0∨j=1∨j=2∨j=3∨j=4∨j=5∨j=6:=by omega
  all_goals (rw [hc];exact hu)
section
variable {E:Bool→Nat→List Tok→Pz.Ou Pz.Ex} (hE:CE E)
def CT (E:Bool→Nat→List Tok→Pz.Ou Pz.Ex) (g n lv:Nat):Prop:=∀(fl:Bool) (d:Nat) (ts:List Tok) (rs:Pz.Rs Pz.Ex) (q:Nat) (w:World),d≤32→Pz.two E g n fl d ts=some rs→Ps w q ts d fl →
 Calls Tryz.prog 108 #[pp q,ci (lv:Int)] w (Out TE q d w rs)
include hE in
theorem two_0 (g:Nat) (hg:g≤3000):CT E g 0 6:=by
 intro fl d ts rs q w hd hs0 h
 rw [Pz.two] at hs0
 have hs:Hidden (_=some rs):=hs0
 clear hs0
 have hq:=h.lt
 have f0:=Fr.alloc (fun _=>False) w ex0
 have g0:Fr (fun k=>k=q) w (w.alloc ex0):=frq f0
 have hP0:Hidden (Ps (w.alloc ex0) q ts d fl):=h.keepN f0
 have hb0:Hidden ((w.alloc ex0).heap[w.heap.size]?=some ex0):=alloc_new _ _
 clear h
 go_enter Tryz.func108,Tryz.ntmps108
 go_wp2_with fail
 go_at_call 153
 obtain ⟨r1,e1,hs⟩:∃r,_=some r∧Hidden (r=rs):=⟨rs,hs,rfl⟩
 refine (un_c hE g hg g fl d ts r1 q _ hd e1 hP0).mono ?_
 clear e1
 rcases r1 with ⟨x,ts1⟩ | ⟨p,c⟩
 rotate_left
 ·obtain rfl:.er p c=rs:=hs
  rintro e W1 ⟨rfl,f1⟩
  unfold gP
  go_wp2_with fail
  exact ⟨rfl,rfl,g0.same f1⟩
 rintro e W1 ⟨v1,rfl,⟨ao,cap,rfl,hN⟩,hQ1,f1⟩
 have g1:=g0.same f1
 have s1:=f1.size
 have t1:=g1.size
 have hP1:Hidden (Ps W1 q ts1 d false):=hQ1
 clear hQ1
 simp only [World.size_alloc] at s1
 have hb0_1:Hidden (W1.heap[w.heap.size]?=some (ex0)):=f1.heap hb0 (by omega)
 obtain rfl:.ok x ts1=rs:=hs
 simp only [World.size_alloc] at hN
 obtain ⟨b0c0,b0c1,b0c2,b0c3,b0c4,b0c5,b0c6,b0z0,b0z1,b0z2,b0z3,b0z4,b0z5,b0z6⟩:=box7 hb0_1
 go_wp2_with fail
 have fs:=set7_fr W1 w.heap.size (ci x.1.kind) (ci x.1.op) (ct x.1.mod) (ct x.1.name) (ci x.1.vt) (.int .u64 x.1.vb) (.slice ao x.2.len cap)
 exact post_ex hb0_1 rfl rfl rfl ⟨_,rfl,⟨ao,cap,rfl,(hN.step fs (fun k hk=>by subst hk;omega)).weak (by omega)⟩,Ps.high hP1 fs (fun k hk=>by subst hk;exact hq),g1.over fs (fun k hk=>by subst hk;exact Nat.le_refl _)⟩
include hE in
theorem two_s (g:Nat) (hg:g≤3000) (n lv:Nat) (hlv:lv+n=5) (hl0:1≤lv) (hT:CT E g n (lv+1)):CT E g (n+1) lv:=by
 intro fl d ts rs q w hd hs0 h
 obtain rfl:5 - n=lv:=by omega
 rw [Pz.two] at hs0
 generalize hlvv:5 - n=lv at *
 clear hlvv
 have hs:Hidden (_=some rs):=hs0
 clear hs0
 have hlb:decide (((lv:Nat):Int) > 5)=false:=by simp;omega
 have hT1:∀(fl:Bool) (d:Nat) (ts:List Tok) (rs:Pz.Rs Pz.Ex) (q:Nat) (w:World),d≤32→Pz.two E g n fl d ts=some rs→Ps w q ts d fl→Calls Tryz.prog 108 #[pp q,ci ((lv:Int)+1)] w (Out TE q d w rs):=hT
 clear hT
 have hq:=h.lt
 have f0:=Fr.alloc (fun _=>False) w ex0
 have g0:Fr (fun k=>k=q) w (w.alloc ex0):=frq f0
 have hP0:Hidden (Ps (w.alloc ex0) q ts d fl):=h.keepN f0
 have hb0:Hidden ((w.alloc ex0).heap[w.heap.size]?=some ex0):=alloc_new _ _
 clear h
 go_enter Tryz.func108,Tryz.ntmps108
 go_wp2_with fail
 go_at_call 108
 obtain ⟨r1,e1,hs⟩:=Pz.bd_some hs
 refine (hT1 fl d ts r1 q _ hd e1 hP0).mono ?_
 clear e1
 rcases r1 with ⟨x,ts1⟩ | ⟨p,c⟩
 rotate_left
 ·obtain rfl:rs = .er p c:=hs
  rintro e W1 ⟨rfl,f1⟩
  unfold gP
  go_wp2_with fail
  exact ⟨rfl,rfl,g0.same f1⟩
 rintro e W1 ⟨v1,rfl,⟨ao,cap,rfl,hN⟩,hQ1,f1⟩
 have g1:=g0.same f1
 have s1:=f1.size
 have t1:=g1.size
 have hP1:Hidden (Ps W1 q ts1 d false):=hQ1
 clear hQ1
 simp only [World.size_alloc] at s1
 have hb0_1:Hidden (W1.heap[w.heap.size]?=some (ex0)):=f1.heap hb0 (by omega)
 simp only [World.size_alloc] at hN
 have fab1:=Fr.alloc (fun _=>False) W1 (.cells #[ci x.1.kind,ci x.1.op,ct x.1.mod,ct x.1.name,ci x.1.vt,.int .u64 x.1.vb,.slice ao x.2.len cap] 59)
 have gb1:Fr (fun k=>k=q) w (W1.alloc (.cells #[ci x.1.kind,ci x.1.op,ct x.1.mod,ct x.1.name,ci x.1.vt,.int .u64 x.1.vb,.slice ao x.2.len cap] 59)):=g1.same (frq fab1)
 have hPb1:Hidden (Ps (W1.alloc (.cells #[ci x.1.kind,ci x.1.op,ct x.1.mod,ct x.1.name,ci x.1.vt,.int .u64 x.1.vb,.slice ao x.2.len cap] 59)) q ts1 d false):=Ps.keepN hP1 fab1
 have hnb1:Hidden ((W1.alloc (.cells #[ci x.1.kind,ci x.1.op,ct x.1.mod,ct x.1.name,ci x.1.vt,.int .u64 x.1.vb,.slice ao x.2.len cap] 59)).heap[W1.heap.size]?=some (.cells #[ci x.1.kind,ci x.1.op,ct x.1.mod,ct x.1.name,ci x.1.vt,.int .u64 x.1.vb,.slice ao x.2.len cap] 59)):=alloc_new _ _
 have hb0_b1:Hidden ((W1.alloc (.cells #[ci x.1.kind,ci x.1.op,ct x.1.mod,ct x.1.name,ci x.1.vt,.int .u64 x.1.vb,.slice ao x.2.len cap] 59)).heap[w.heap.size]?=some (ex0)):=fab1.heap hb0_1 (fun f=>f)
 go_wp2_with fail
 have hN0:Hidden (Nz (w.heap.size+1) W1.heap.size (W1.alloc (.cells #[ci x.1.kind,ci x.1.op,ct x.1.mod,ct x.1.name,ci x.1.vt,.int .u64 x.1.vb,.slice ao x.2.len cap] 59)) (fun w=>ExL w ao cap x.2)):=((hN.weak (by omega)).nz (Nat.le_refl _)).step fab1 (fun _ f=>f.elim)
 obtain ⟨β,hβ⟩:∃β,β=W1.heap.size:=⟨_,rfl⟩
 have hβ1:w.heap.size+1≤β:=by omega
 go_loopg [6,7] g (fun k _ _ wr=>∃(y:Pz.Ex) (us:List Tok) (ao:Option Addr) (cap:Nat),Pz.lp (Pz.two E g n false d) lv k y us=some rs∧wr.heap[W1.heap.size]?=some (.cells #[ci y.1.kind,ci y.1.op,ct y.1.mod,ct y.1.name,ci y.1.vt,.int .u64 y.1.vb,.slice ao y.2.len cap] 59)∧wr.heap[w.heap.size]?=some ex0∧Nz (w.heap.size+1) W1.heap.size wr (fun w=>ExL w ao cap y.2)∧Ps wr q us d false∧Fr (fun k=>k=q) w wr∧W1.heap.size+1≤wr.heap.size)
 case atStart=>exact ⟨x,ts1,ao,cap,hs,hnb1,hb0_b1,hN0,hPb1,gb1,by simp⟩
 case round =>
  obtain ⟨y,us,ao2,cap2,hspec,hb1w,hb0w,hNz,hps,hfr,hsz⟩:=hrel
  have hspecH:Hidden (Pz.lp (Pz.two E g n false d) lv gk y us=some rs):=hspec
  have hb1H:Hidden (wr.heap[W1.heap.size]?=some (.cells #[ci y.1.kind,ci y.1.op,ct y.1.mod,ct y.1.name,ci y.1.vt,.int .u64 y.1.vb,.slice ao2 y.2.len cap2] 59)):=hb1w
  have hb0H:Hidden (wr.heap[w.heap.size]?=some ex0):=hb0w
  have hpsH:Hidden (Ps wr q us d false):=hps
  clear hspec hb1w hb0w hps hs hN0 hnb1 hb0_b1 hPb1
  have hf1:=fld1
  cases gk with
  | zero=>exact absurd hspecH (by simp [Hidden,Pz.lp])
  | succ gk =>
    cases us with
    | nil=>exact absurd hspecH (by simp [Hidden,Pz.lp])
    | cons t r =>
      have hs3:Pz.lp (Pz.two E g n false d) lv (gk+1) y (t::r)=some rs:=hspecH
      rw [Pz.lp] at hs3
      have kop:=fun w=>op_c t.x w
      obtain ⟨op,own,hO⟩:∃op own,Pz.opOf t.x=(op,own):=⟨_,_,rfl⟩
      rw [hO] at hs3
      simp only [hO] at kop
      simp only [] at hs3 kop
      clear hO hspecH
      by_cases hop:own=lv
      ·subst hop
       rw [if_neg (by simp)] at hs3
       have hs4:Hidden (Pz.bd _ _=some rs):=hs3
       have ob1:((own:Int) == (own:Int))=true:=by simp
       have ob2:((own:Int) != (own:Int))=false:=by simp
       clear hs3
       go_wp2_with fail
       go_at_call 111
       refine (next_any q t r d false _ hpsH).mono ?_
       rintro e W2 ⟨rfl,f2⟩
       go_wp2_with fail
       go_at_call 154
       refine (kop _).mono ?_
       rintro e W2' ⟨rfl,rfl⟩
       go_wp2_with fail
       go_at_call 112
       refine (take_ok q t r d _ (Ps.keepN hpsH f2)).mono ?_
       rintro e W3 ⟨rfl,hp3,f3⟩
       have hp3H:Hidden (Ps W3 q r d false):=hp3
       have g3:=(hfr.same (frq f2)).same f3
       have b13:Hidden (W3.heap[W1.heap.size]?=some (.cells #[ci y.1.kind,ci y.1.op,ct y.1.mod,ct y.1.name,ci y.1.vt,.int .u64 y.1.vb,.slice ao2 y.2.len cap2] 59)):=f3.heap (f2.heap hb1H (fun f=>f)) (by omega)
       have b03:Hidden (W3.heap[w.heap.size]?=some ex0):=f3.heap (f2.heap hb0H (fun f=>f)) (by omega)
       have hN3:=(hNz.step f2 (fun _ f=>f.elim)).step f3 (fun k hk=>by subst hk;omega)
       have sz3:=(f2.same (Fr.refl _ _)).size
       have sz3':=f3.size
       have f3d:Fr (fun _=>False) W3 W3.drew:=Fr.drew _ _
       have b13d:=f3d.heap b13 (fun f=>f)
       obtain ⟨bc0,bc1,bc2,bc3,bc4,bc5,bc6,bz0,bz1,bz2,bz3,bz4,bz5,bz6⟩:=box7 b13d
       clear hp3 bz0 bz1 bz2 bz3 bz4 bz5 bz6 b13d
       obtain ⟨r1,e1,hs⟩:=Pz.bd_some hs4
       have kT:Calls Tryz.prog 108 #[pp q,.int .i64 (IntKind.i64.wrap ((own:Int)+1))] W3.drew (Out TE q d W3.drew r1):=by
        rw [show IntKind.i64.wrap ((own:Int)+1)=(own:Int)+1 from wrap_s (by omega) (by omega)]
        exact hT1 false d r r1 q W3.drew hd e1 (Ps.keepN hp3H f3d)
       clear e1 hs4
       go_wp2_with fail
       rcases r1 with ⟨z,ts4⟩ | ⟨p,c⟩
       rotate_left
       ·obtain rfl:rs = .er p c:=hs
        unfold Out gP at kT
        go_region_dies
        all_goals (refine kT.mono ?_;rintro e W4 ⟨rfl,f4⟩;exact ⟨rfl,rfl,(g3.same (frq f3d)).same f4⟩)
       ·unfold Out TE at kT
        go_region_with (first
         | (go_at_call 108;refine kT.mono ?_;rintro e W4 ⟨v4,rfl,⟨ao4,cap4,rfl,hN4⟩,hQ4,f4⟩
            have b14:=f4.heap (f3d.heap b13 (fun f=>f)) (by omega)
            have b14H:Hidden (W4.heap[W1.heap.size]?=some (.cells #[ci y.1.kind,ci y.1.op,ct y.1.mod,ct y.1.name,ci y.1.vt,.int .u64 y.1.vb,.slice ao2 y.2.len cap2] 59)):=b14
            have fa4:=Fr.alloc (fun _=>False) W4 (.cells #[ci y.1.kind,ci y.1.op,ct y.1.mod,ct y.1.name,ci y.1.vt,.int .u64 y.1.vb,.slice ao2 y.2.len cap2,ci z.1.kind,ci z.1.op,ct z.1.mod,ct z.1.name,ci z.1.vt,.int .u64 z.1.vb,.slice ao4 z.2.len cap4] 59)
            obtain ⟨ec0,ec1,ec2,ec3,ec4,ec5,ec6,ez0,ez1,ez2,ez3,ez4,ez5,ez6⟩:=box7 (fa4.heap b14 (fun f=>f))
            obtain ⟨dc0,dc1,dc2,dc3,dc4,dc5,dc6,dz0,dz1,dz2,dz3,dz4,dz5,dz6⟩:=box7 b14))
        all_goals
         have s4:=f4.size
         have s4b:W3.drew.heap.size=W3.heap.size:=rfl
         have fs5:=set7_fr (W4.alloc (.cells #[ci y.1.kind,ci y.1.op,ct y.1.mod,ct y.1.name,ci y.1.vt,.int .u64 y.1.vb,.slice ao2 y.2.len cap2,ci z.1.kind,ci z.1.op,ct z.1.mod,ct z.1.name,ci z.1.vt,.int .u64 z.1.vb,.slice ao4 z.2.len cap4] 59)) W1.heap.size (ci 7) (ci op) (.string ⟨#[]⟩) (.string ⟨#[]⟩) (ci 0) (.int .u64 0) (.slice (some ⟨W4.heap.size,0,none⟩) 2 2)
         have hb15:((((((((W4.alloc (.cells #[ci y.1.kind,ci y.1.op,ct y.1.mod,ct y.1.name,ci y.1.vt,.int .u64 y.1.vb,.slice ao2 y.2.len cap2,ci z.1.kind,ci z.1.op,ct z.1.mod,ct z.1.name,ci z.1.vt,.int .u64 z.1.vb,.slice ao4 z.2.len cap4] 59)).setCell ⟨W1.heap.size,0,none⟩ (ci 7)).setCell ⟨W1.heap.size,1,none⟩ (ci op)).setCell ⟨W1.heap.size,2,none⟩ (.string ⟨#[]⟩)).setCell ⟨W1.heap.size,3,none⟩ (.string ⟨#[]⟩)).setCell ⟨W1.heap.size,4,none⟩ (ci 0)).setCell ⟨W1.heap.size,5,none⟩ (.int .u64 0)).setCell ⟨W1.heap.size,6,none⟩ (.slice (some ⟨W4.heap.size,0,none⟩) 2 2)).heap[W1.heap.size]?=some (.cells #[ci 7,ci op,.string ⟨#[]⟩,.string ⟨#[]⟩,ci 0,.int .u64 0,.slice (some ⟨W4.heap.size,0,none⟩) 2 2] 59):=set_seven (fa4.heap b14H (fun f=>f)) _ _ _ _ _ _ _
         have hb05:((((((((W4.alloc (.cells #[ci y.1.kind,ci y.1.op,ct y.1.mod,ct y.1.name,ci y.1.vt,.int .u64 y.1.vb,.slice ao2 y.2.len cap2,ci z.1.kind,ci z.1.op,ct z.1.mod,ct z.1.name,ci z.1.vt,.int .u64 z.1.vb,.slice ao4 z.2.len cap4] 59)).setCell ⟨W1.heap.size,0,none⟩ (ci 7)).setCell ⟨W1.heap.size,1,none⟩ (ci op)).setCell ⟨W1.heap.size,2,none⟩ (.string ⟨#[]⟩)).setCell ⟨W1.heap.size,3,none⟩ (.string ⟨#[]⟩)).setCell ⟨W1.heap.size,4,none⟩ (ci 0)).setCell ⟨W1.heap.size,5,none⟩ (.int .u64 0)).setCell ⟨W1.heap.size,6,none⟩ (.slice (some ⟨W4.heap.size,0,none⟩) 2 2)).heap[w.heap.size]?=some ex0:=fs5.heap (fa4.heap (f4.heap (f3d.heap b03 (fun f=>f)) (by omega)) (fun f=>f)) (by omega)
         have hg5:((((((((W4.alloc (.cells #[ci y.1.kind,ci y.1.op,ct y.1.mod,ct y.1.name,ci y.1.vt,.int .u64 y.1.vb,.slice ao2 y.2.len cap2,ci z.1.kind,ci z.1.op,ct z.1.mod,ct z.1.name,ci z.1.vt,.int .u64 z.1.vb,.slice ao4 z.2.len cap4] 59)).setCell ⟨W1.heap.size,0,none⟩ (ci 7)).setCell ⟨W1.heap.size,1,none⟩ (ci op)).setCell ⟨W1.heap.size,2,none⟩ (.string ⟨#[]⟩)).setCell ⟨W1.heap.size,3,none⟩ (.string ⟨#[]⟩)).setCell ⟨W1.heap.size,4,none⟩ (ci 0)).setCell ⟨W1.heap.size,5,none⟩ (.int .u64 0)).setCell ⟨W1.heap.size,6,none⟩ (.slice (some ⟨W4.heap.size,0,none⟩) 2 2)).heap[W4.heap.size]?=some (.cells #[ci y.1.kind,ci y.1.op,ct y.1.mod,ct y.1.name,ci y.1.vt,.int .u64 y.1.vb,.slice ao2 y.2.len cap2,ci z.1.kind,ci z.1.op,ct z.1.mod,ct z.1.name,ci z.1.vt,.int .u64 z.1.vb,.slice ao4 z.2.len cap4] 59):=fs5.heap (alloc_new _ _) (by omega)
         have hNy:=(((hN3.step f3d (fun _ f=>f.elim)).step f4 (fun k hk=>by subst hk;omega)).step fa4 (fun _ f=>f.elim)).step fs5 (fun k hk=>Or.inr hk)
         have hNz5:=(((hN4.old (z:=W1.heap.size) (B':=w.heap.size+1) (by omega) (by omega)).step fa4 (fun _ f=>f.elim)).step fs5 (fun k hk=>Or.inr hk))
         have hK5:=Nz.two hNy hNz5 hg5 (by omega) (by omega)
         have hp5:Hidden (Ps ((((((((W4.alloc (.cells #[ci y.1.kind,ci y.1.op,ct y.1.mod,ct y.1.name,ci y.1.vt,.int .u64 y.1.vb,.slice ao2 y.2.len cap2,ci z.1.kind,ci z.1.op,ct z.1.mod,ct z.1.name,ci z.1.vt,.int .u64 z.1.vb,.slice ao4 z.2.len cap4] 59)).setCell ⟨W1.heap.size,0,none⟩ (ci 7)).setCell ⟨W1.heap.size,1,none⟩ (ci op)).setCell ⟨W1.heap.size,2,none⟩ (.string ⟨#[]⟩)).setCell ⟨W1.heap.size,3,none⟩ (.string ⟨#[]⟩)).setCell ⟨W1.heap.size,4,none⟩ (ci 0)).setCell ⟨W1.heap.size,5,none⟩ (.int .u64 0)).setCell ⟨W1.heap.size,6,none⟩ (.slice (some ⟨W4.heap.size,0,none⟩) 2 2)) q ts4 d false):=(hQ4.keepN fa4).high fs5 (fun k hk=>by subst hk;omega)
         have g5:Fr (fun k=>k=q) w ((((((((W4.alloc (.cells #[ci y.1.kind,ci y.1.op,ct y.1.mod,ct y.1.name,ci y.1.vt,.int .u64 y.1.vb,.slice ao2 y.2.len cap2,ci z.1.kind,ci z.1.op,ct z.1.mod,ct z.1.name,ci z.1.vt,.int .u64 z.1.vb,.slice ao4 z.2.len cap4] 59)).setCell ⟨W1.heap.size,0,none⟩ (ci 7)).setCell ⟨W1.heap.size,1,none⟩ (ci op)).setCell ⟨W1.heap.size,2,none⟩ (.string ⟨#[]⟩)).setCell ⟨W1.heap.size,3,none⟩ (.string ⟨#[]⟩)).setCell ⟨W1.heap.size,4,none⟩ (ci 0)).setCell ⟨W1.heap.size,5,none⟩ (.int .u64 0)).setCell ⟨W1.heap.size,6,none⟩ (.slice (some ⟨W4.heap.size,0,none⟩) 2 2)):=(((g3.same (frq f3d)).same f4).same (frq fa4)).over fs5 (fun k hk=>by subst hk;omega)
         have s5:=fs5.size
         simp only [World.size_alloc] at s5
         generalize ((((((((W4.alloc (.cells #[ci y.1.kind,ci y.1.op,ct y.1.mod,ct y.1.name,ci y.1.vt,.int .u64 y.1.vb,.slice ao2 y.2.len cap2,ci z.1.kind,ci z.1.op,ct z.1.mod,ct z.1.name,ci z.1.vt,.int .u64 z.1.vb,.slice ao4 z.2.len cap4] 59)).setCell ⟨W1.heap.size,0,none⟩ (ci 7)).setCell ⟨W1.heap.size,1,none⟩ (ci op)).setCell ⟨W1.heap.size,2,none⟩ (.string ⟨#[]⟩)).setCell ⟨W1.heap.size,3,none⟩ (.string ⟨#[]⟩)).setCell ⟨W1.heap.size,4,none⟩ (ci 0)).setCell ⟨W1.heap.size,5,none⟩ (.int .u64 0)).setCell ⟨W1.heap.size,6,none⟩ (.slice (some ⟨W4.heap.size,0,none⟩) 2 2))=W5 at fs5 hb15 hb05 hg5 hK5 hp5 g5 s5 ⊢
         have hb15H:Hidden (W5.heap[W1.heap.size]?=some (.cells #[ci 7,ci op,.string ⟨#[]⟩,.string ⟨#[]⟩,ci 0,.int .u64 0,.slice (some ⟨W4.heap.size,0,none⟩) 2 2] 59)):=hb15
         have hb05H:Hidden (W5.heap[w.heap.size]?=some ex0):=hb05
         clear hNy hNz5 hg5 fs5 hb15 hb05 dc0 dc1 dc2 dc3 dc4 dc5 dc6 dz0 dz1 dz2 dz3 dz4 dz5 dz6 ec0 ec1 ec2 ec3 ec4 ec5 ec6 ez0 ez1 ez2 ez3 ez4 ez5 ez6 bc0 bc1 bc2 bc3 bc4 bc5 bc6 b14H b14 fa4 hQ4 hN4
         by_cases hl3:own=3
         ·obtain rfl:rs = .ok (Pz.bin op y z) ts4:=by
           have h1:(if own=3 then some (Pz.Rs.ok (Pz.bin op y z) ts4) else Pz.lp (Pz.two E g n false d) own gk (Pz.bin op y z) ts4)=some rs:=hs
           rw [if_pos hl3] at h1
           exact (Option.some.inj h1).symm
          have l3:((own:Int) == 3)=true:=by simp [hl3]
          obtain ⟨ac0,ac1,ac2,ac3,ac4,ac5,ac6,az0,az1,az2,az3,az4,az5,az6⟩:=box7 hb05H
          obtain ⟨bc0,bc1,bc2,bc3,bc4,bc5,bc6,bz0,bz1,bz2,bz3,bz4,bz5,bz6⟩:=box7 hb15H
          clear hs hl3
          go_wp2_with fail
          (try simp only [Exit.inBlock,Exit.then])
          have fs:=set7_fr W5 w.heap.size (ci 7) (ci op) (.string ⟨#[]⟩) (.string ⟨#[]⟩) (ci 0) (.int .u64 0) (.slice (some ⟨W4.heap.size,0,none⟩) 2 2)
          exact post_ex hb05H rfl rfl rfl ⟨_,rfl,⟨some ⟨W4.heap.size,0,none⟩,2,rfl,(hK5.nw.step fs (fun k hk=>by subst hk;omega)).weak (by omega)⟩,Ps.high hp5 fs (fun k hk=>by subst hk;exact hq),g5.over fs (fun k hk=>by subst hk;exact Nat.le_refl _)⟩
         ·have hs5:Hidden (Pz.lp (Pz.two E g n false d) own gk (Pz.bin op y z) ts4=some rs):=by
           have h1:(if own=3 then some (Pz.Rs.ok (Pz.bin op y z) ts4) else Pz.lp (Pz.two E g n false d) own gk (Pz.bin op y z) ts4)=some rs:=hs
           rw [if_neg hl3] at h1
           exact h1
          have l3:((own:Int) == 3)=false:=by rw [beq_eq_false_iff_ne];omega
          clear hs hl3
          go_wp2_with fail
          go_roundg gk
          case measure=>omega
          case rel=>exact ⟨Pz.bin op y z,ts4,_,_,hs5,hb15H,hb05H,hK5,hp5,g5,by omega⟩
      ·rw [if_pos hop] at hs3
       obtain rfl:rs = .ok y (t::r):=(Option.some.inj hs3).symm
       have ob1:((own:Int) == (lv:Int))=false:=by rw [beq_eq_false_iff_ne];omega
       have ob2:((own:Int) != (lv:Int))=true:=by rw [bne_iff_ne];omega
       clear hs3 hop
       go_wp2_with fail
       go_at_call 111
       refine (next_any q t r d false _ hpsH).mono ?_
       rintro e W2 ⟨rfl,f2⟩
       have b12:=f2.heap hb1H (fun f=>f)
       have b02:Hidden (W2.heap[w.heap.size]?=some ex0):=f2.heap hb0H (fun f=>f)
       obtain ⟨ac0,ac1,ac2,ac3,ac4,ac5,ac6,az0,az1,az2,az3,az4,az5,az6⟩:=box7 b02
       obtain ⟨bc0,bc1,bc2,bc3,bc4,bc5,bc6,bz0,bz1,bz2,bz3,bz4,bz5,bz6⟩:=box7 b12
       clear b12
       go_wp2_with fail
       go_at_call 154
       refine (kop _).mono ?_
       rintro e W2' ⟨rfl,rfl⟩
       go_wp2_with fail
       (try simp only [Exit.inBlock,Exit.then])
       have fs:=set7_fr W2' w.heap.size (ci y.1.kind) (ci y.1.op) (ct y.1.mod) (ct y.1.name) (ci y.1.vt) (.int .u64 y.1.vb) (.slice ao2 y.2.len cap2)
       exact post_ex b02 rfl rfl rfl ⟨_,rfl,⟨ao2,cap2,rfl,((hNz.step f2 (fun _ f=>f.elim)).nw.step fs (fun k hk=>by subst hk;omega)).weak (by omega)⟩,(Ps.keepN hpsH f2).high fs (fun k hk=>by subst hk;exact hq),(hfr.same (frq f2)).over fs (fun k hk=>by subst hk;exact Nat.le_refl _)⟩
include hE in
theorem two_c (g:Nat) (hg:g≤3000):CT E g 5 1 :=
 two_s hE g hg 4 1 (by omega) (by omega) (two_s hE g hg 3 2 (by omega) (by omega) (two_s hE g hg 2 3 (by omega) (by omega) (two_s hE g hg 1 4 (by omega) (by omega) (two_s hE g hg 0 5 (by omega) (by omega) (two_0 hE g hg)))))
end
theorem expr_s (f:Nat) (hf:f+1≤3000) (hE:CE (Pz.expr f)):CE (Pz.expr (f+1)):=by
 intro fl d ts rs q w hd hs0 h
 rw [Pz.expr] at hs0
 have hT:=two_c hE (f+1) hf
 unfold CT at hT
 have hs:Hidden (_=some rs):=hs0
 clear hs0
 have hq:=h.lt
 have f0:=Fr.alloc (fun _=>False) w ex0
 have g0:Fr (fun k=>k=q) w (w.alloc ex0):=frq f0
 have hP0:Hidden (Ps (w.alloc ex0) q ts d fl):=h.keepN f0
 have hb0:Hidden ((w.alloc ex0).heap[w.heap.size]?=some ex0):=alloc_new _ _
 clear h
 go_enter Tryz.func59,Tryz.ntmps59
 go_wp2_with fail
 go_at_call 108
 obtain ⟨r1,e1,hs⟩:∃r,_=some r∧Hidden (r=rs):=⟨rs,hs,rfl⟩
 refine (hT fl d ts r1 q _ hd e1 hP0).mono ?_
 clear e1
 rcases r1 with ⟨x,ts1⟩ | ⟨p,c⟩
 rotate_left
 ·obtain rfl:.er p c=rs:=hs
  rintro e W1 ⟨rfl,f1⟩
  unfold gP
  go_wp2_with fail
  exact ⟨rfl,rfl,g0.same f1⟩
 rintro e W1 ⟨v1,rfl,⟨ao,cap,rfl,hN⟩,hQ1,f1⟩
 have g1:=g0.same f1
 have s1:=f1.size
 have t1:=g1.size
 have hP1:Hidden (Ps W1 q ts1 d false):=hQ1
 clear hQ1
 simp only [World.size_alloc] at s1
 have hb0_1:Hidden (W1.heap[w.heap.size]?=some (ex0)):=f1.heap hb0 (by omega)
 obtain rfl:.ok x ts1=rs:=hs
 simp only [World.size_alloc] at hN
 obtain ⟨b0c0,b0c1,b0c2,b0c3,b0c4,b0c5,b0c6,b0z0,b0z1,b0z2,b0z3,b0z4,b0z5,b0z6⟩:=box7 hb0_1
 go_wp2_with fail
 have fs:=set7_fr W1 w.heap.size (ci x.1.kind) (ci x.1.op) (ct x.1.mod) (ct x.1.name) (ci x.1.vt) (.int .u64 x.1.vb) (.slice ao x.2.len cap)
 exact post_ex hb0_1 rfl rfl rfl ⟨_,rfl,⟨ao,cap,rfl,(hN.step fs (fun k hk=>by subst hk;omega)).weak (by omega)⟩,Ps.high hP1 fs (fun k hk=>by subst hk;exact hq),g1.over fs (fun k hk=>by subst hk;exact Nat.le_refl _)⟩
theorem expr_c:∀(f:Nat),f≤3000→CE (Pz.expr f)
 | 0,_=>fun fl d ts rs q w hd hs h=>by simp [Pz.expr] at hs
 | f+1,hf=>expr_s f hf (expr_c f (by omega))
end
section
open Go.RowKit Lx Te
theorem info_st:(Tryz.prog.info? 91).map (·.size)=some 5:=by kernel_rfl
abbrev st0:Obj:=.cells #[ci 0,.string ⟨#[]⟩,.slice none 0 0,.slice none 0 0,.slice none 0 0] 91 (0,0)
theorem post_st {fn:Func} {R:Ending→World→Prop} {a:Act} {w:World} {p:Tmp} {g:Nat} {x0 x1 x2 x3 x4 v0 v1 v2 v3 v4:Value} (hg:w.heap[g]?=some (.cells #[x0,x1,x2,x3,x4] 91 (0,0))) (h:fn.results=#[.cell p 91]) (hd:a.defers=[])
 (hp:a.tmps.getD p undef = .pointer (some ⟨g,0,none⟩)) (hR:R (.returned (.agg #[v0,v1,v2,v3,v4])) (((((w.setCell ⟨g,0,none⟩ v0).setCell ⟨g,1,none⟩ v1).setCell ⟨g,2,none⟩ v2).setCell ⟨g,3,none⟩ v3).setCell ⟨g,4,none⟩ v4)) :
 bodyPost Tryz.prog fn R .ret a (((((w.setCell ⟨g,0,none⟩ v0).setCell ⟨g,1,none⟩ v1).setCell ⟨g,2,none⟩ v2).setCell ⟨g,3,none⟩ v3).setCell ⟨g,4,none⟩ v4) :=
 post_one (results_cell_row h _ _ _ _ _ _ _ hp (set_five hg _ _ _ _ _) Tryz.underlying91 rfl info_st) hd hR
def TS (s:Pz.St) (v:Value) (w w':World):Prop:=∃ao1 cap1 ao2 cap2 ao3 cap3,v = .agg #[ci s.1.kind,ct s.1.name,.slice ao1 s.2.1.len cap1,.slice ao2 s.2.2.1.len cap2,.slice ao3 s.2.2.2.len cap3]∧Nw w.heap.size w' (fun w=>ExL w ao1 cap1 s.2.1∧StL w ao2 cap2 s.2.2.1∧StL w ao3 cap3 s.2.2.2)
def TB (l:Sts) (v:Value) (w w':World):Prop:=∃ao cap,v = .slice ao l.len cap∧Nw w.heap.size w' (fun w=>StL w ao cap l)
def CE0 (E:Nat→List Tok→Pz.Ou Pz.Ex):Prop:=∀(d:Nat) (ts:List Tok) (rs:Pz.Rs Pz.Ex) (q:Nat) (w:World),d≤32→E d ts=some rs→Ps w q ts d false→Calls Tryz.prog 59 #[pp q] w (Out TE q d w rs)
def CC0 (C:Nat→Pz.Ex→List Tok→Pz.Ou Pz.Ex):Prop:=∀(d:Nat) (x:Pz.Ex) (ao:Option Addr) (n cap:Nat) (ts:List Tok) (rs:Pz.Rs Pz.Ex) (q:Nat) (w:World),d≤32→C d x ts=some rs→Ps w q ts d false →
 Calls Tryz.prog 224 #[pp q,.agg #[ci x.1.kind,ci x.1.op,ct x.1.mod,ct x.1.name,ci x.1.vt,.int .u64 x.1.vb,.slice ao n cap]] w (Out TE q d w rs)
def CB0 (B:Nat→List Tok→Pz.Ou Sts):Prop:=∀(d:Nat) (ts:List Tok) (rs:Pz.Rs Sts) (q:Nat) (w:World),d≤32→B d ts=some rs→Ps w q ts d false→Calls Tryz.prog 159 #[pp q] w (Out TB q d w rs)
theorem stnil (w:World):StL w none 0 .nil:=⟨Nat.le_refl _,by decide,Or.inl rfl⟩
theorem exnil (w:World):ExL w none 0 .nil:=⟨Nat.le_refl _,by decide,Or.inl rfl⟩
theorem ended_c (q:Nat) (kind:Int) (ev:Value) (hev:∃ao n cap,ev = .slice ao n cap) (ts:List Tok) (d:Nat) (rs:Pz.Rs Unit) (hs:Hidden (Pz.must [59] false ts=some rs)) (w:World) (h:Ps w q ts d false) :
 Calls Tryz.prog 230 #[pp q,ci kind,ev] w (Out (fun _ v _ _=>v = .agg #[ci kind,.string ⟨#[]⟩,ev,.slice none 0 0,.slice none 0 0]) q d w rs):=by
 obtain ⟨aoe,ne,cape,rfl⟩:=hev
 have hq:=h.lt
 have f0:=Fr.alloc (fun _=>False) w st0
 have g0:Fr (fun k=>k=q) w (w.alloc st0):=frq f0
 have hP0:Hidden (Ps (w.alloc st0) q ts d false):=h.keepN f0
 have hb0:Hidden ((w.alloc st0).heap[w.heap.size]?=some st0):=alloc_new _ _
 clear h
 go_enter Tryz.func230,Tryz.ntmps230
 go_wp2_with fail
 go_at_call 63
 obtain ⟨r1,e1,hs⟩:∃r,_=some r∧Hidden (r=rs):=⟨rs,hs,rfl⟩
 refine (must_c q [59] ts d false r1 e1 _ hP0).mono ?_
 clear e1
 rcases r1 with ⟨u,ts1⟩ | ⟨p,c⟩
 rotate_left
 ·obtain rfl:.er p c=rs:=hs
  rintro e W1 ⟨rfl,f1⟩
  unfold gP
  go_wp2_with fail
  exact ⟨rfl,rfl,g0.same f1⟩
 rintro e W1 ⟨v1,rfl,rfl,hQ1,f1⟩
 have g1:=g0.same f1
 have s1:=f1.size
 have t1:=g1.size
 have hP1:Hidden (Ps W1 q ts1 d false):=hQ1
 clear hQ1
 simp only [World.size_alloc] at s1
 have hb0_1:Hidden (W1.heap[w.heap.size]?=some (st0)):=f1.heap hb0 (by omega)
 obtain rfl:.ok u ts1=rs:=hs
 obtain ⟨b0c0,b0c1,b0c2,b0c3,b0c4,b0z0,b0z1,b0z2,b0z3,b0z4⟩:=box5 hb0_1
 go_wp2_with fail
 have fs:=set5_fr W1 w.heap.size (ci kind) (.string ⟨#[]⟩) (.slice aoe ne cape) (.slice none 0 0) (.slice none 0 0)
 exact post_st hb0_1 rfl rfl rfl ⟨_,rfl,rfl,Ps.high hP1 fs (fun k hk=>by subst hk;exact hq),g1.over fs (fun k hk=>by subst hk;exact Nat.le_refl _)⟩
section
variable {E:Nat→List Tok→Pz.Ou Pz.Ex} (hE:CE0 E) {C:Nat→Pz.Ex→List Tok→Pz.Ou Pz.Ex} (hC:CC0 C) {B:Nat→List Tok→Pz.Ou Sts} (hB:CB0 B)
include hE
theorem lone_c (q:Nat) (ts:List Tok) (d:Nat) (hd:d≤32) (rs:Pz.Rs Exs) (hs:Hidden (Pz.lone E d ts=some rs)) (w:World) (h:Ps w q ts d false) :
 Calls Tryz.prog 156 #[pp q] w (Out TL q d w rs):=by
 have hq:=h.lt
 have g0:=Fr.refl (fun k=>k=q) w
 have hP0:Hidden (Ps w q ts d false):=h
 clear h
 go_enter Tryz.func156,Tryz.ntmps156
 go_wp2_with fail
 go_at_call 59
 obtain ⟨r1,e1,hs⟩:=Pz.bd_some hs
 refine (hE d ts r1 q _ hd e1 hP0).mono ?_
 clear e1
 rcases r1 with ⟨x,ts1⟩ | ⟨p,c⟩
 rotate_left
 ·obtain rfl:rs = .er p c:=hs
  rintro e W1 ⟨rfl,f1⟩
  unfold gP
  go_wp2_with fail
  exact ⟨rfl,rfl,g0.same f1⟩
 rintro e W1 ⟨v1,rfl,⟨ao,cap,rfl,hN⟩,hQ1,f1⟩
 have g1:=g0.same f1
 have s1:=f1.size
 have t1:=g1.size
 have hP1:Hidden (Ps W1 q ts1 d false):=hQ1
 clear hQ1
 obtain rfl:rs = .ok (.cons x.1 x.2 .nil) ts1:=(Option.some.inj (show some _=some rs from hs)).symm
 have fab1:=Fr.alloc (fun _=>False) W1 (.cells #[ci x.1.kind,ci x.1.op,ct x.1.mod,ct x.1.name,ci x.1.vt,.int .u64 x.1.vb,.slice ao x.2.len cap] 59)
 have gb1:Fr (fun k=>k=q) w (W1.alloc (.cells #[ci x.1.kind,ci x.1.op,ct x.1.mod,ct x.1.name,ci x.1.vt,.int .u64 x.1.vb,.slice ao x.2.len cap] 59)):=g1.same (frq fab1)
 have hPb1:Hidden (Ps (W1.alloc (.cells #[ci x.1.kind,ci x.1.op,ct x.1.mod,ct x.1.name,ci x.1.vt,.int .u64 x.1.vb,.slice ao x.2.len cap] 59)) q ts1 d false):=Ps.keepN hP1 fab1
 have hnb1:Hidden ((W1.alloc (.cells #[ci x.1.kind,ci x.1.op,ct x.1.mod,ct x.1.name,ci x.1.vt,.int .u64 x.1.vb,.slice ao x.2.len cap] 59)).heap[W1.heap.size]?=some (.cells #[ci x.1.kind,ci x.1.op,ct x.1.mod,ct x.1.name,ci x.1.vt,.int .u64 x.1.vb,.slice ao x.2.len cap] 59)):=alloc_new _ _
 go_wp2_with fail
 go_ret
 exact ⟨_,rfl,⟨some ⟨W1.heap.size,0,none⟩,1,rfl,(hN.step fab1 (fun _ f=>f.elim)).one hnb1 (by omega)⟩,hPb1,gb1⟩
theorem asg_c (q:Nat) (kind:Int) (n:Bs) (ts:List Tok) (d:Nat) (hd:d≤32) (rs:Pz.Rs Pz.St) (hs:Hidden (Pz.asg E d kind n ts=some rs)) (w:World) (h:Ps w q ts d false) :
 Calls Tryz.prog 227 #[pp q,ci kind,ct n] w (Out TS q d w rs):=by
 have hq:=h.lt
 have f0:=Fr.alloc (fun _=>False) w st0
 have g0:Fr (fun k=>k=q) w (w.alloc st0):=frq f0
 have hP0:Hidden (Ps (w.alloc st0) q ts d false):=h.keepN f0
 have hb0:Hidden ((w.alloc st0).heap[w.heap.size]?=some st0):=alloc_new _ _
 clear h
 go_enter Tryz.func227,Tryz.ntmps227
 go_wp2_with fail
 go_at_call 63
 obtain ⟨r1,e1,hs⟩:=Pz.bd_some hs
 refine (must_c q [61] ts d false r1 e1 _ hP0).mono ?_
 clear e1
 rcases r1 with ⟨u,ts1⟩ | ⟨p,c⟩
 rotate_left
 ·obtain rfl:rs = .er p c:=hs
  rintro e W1 ⟨rfl,f1⟩
  unfold gP
  go_wp2_with fail
  exact ⟨rfl,rfl,g0.same f1⟩
 rintro e W1 ⟨v1,rfl,rfl,hQ1,f1⟩
 have g1:=g0.same f1
 have s1:=f1.size
 have t1:=g1.size
 have hP1:Hidden (Ps W1 q ts1 d false):=hQ1
 clear hQ1
 simp only [World.size_alloc] at s1
 have hb0_1:Hidden (W1.heap[w.heap.size]?=some (st0)):=f1.heap hb0 (by omega)
 go_wp2_with fail
 go_at_call 156
 obtain ⟨r2,e2,hs⟩:=Pz.bd_some hs
 refine (lone_c hE q ts1 d hd r2 e2 _ hP1).mono ?_
 clear e2
 rcases r2 with ⟨l,ts2⟩ | ⟨p,c⟩
 rotate_left
 ·obtain rfl:rs = .er p c:=hs
  rintro e W2 ⟨rfl,f2⟩
  unfold gP
  go_wp2_with fail
  exact ⟨rfl,rfl,g1.same f2⟩
 rintro e W2 ⟨v2,rfl,⟨ao,cap,rfl,hN⟩,hQ2,f2⟩
 have g2:=g1.same f2
 have s2:=f2.size
 have t2:=g2.size
 have hP2:Hidden (Ps W2 q ts2 d false):=hQ2
 clear hQ2
 have hb0_2:Hidden (W2.heap[w.heap.size]?=some (st0)):=f2.heap hb0_1 (by omega)
 go_wp2_with fail
 go_at_call 230
 obtain ⟨r3,e3,hs⟩:=Pz.bd_some hs
 refine (ended_c q kind (.slice ao l.len cap) ⟨_,_,_,rfl⟩ ts2 d r3 e3 _ hP2).mono ?_
 clear e3
 rcases r3 with ⟨u3,ts3⟩ | ⟨p,c⟩
 rotate_left
 ·obtain rfl:rs = .er p c:=hs
  rintro e W3 ⟨rfl,f3⟩
  unfold gP
  go_wp2_with fail
  exact ⟨rfl,rfl,g2.same f3⟩
 rintro e W3 ⟨v3,rfl,rfl,hQ3,f3⟩
 have g3:=g2.same f3
 have s3:=f3.size
 have t3:=g3.size
 have hP3:Hidden (Ps W3 q ts3 d false):=hQ3
 clear hQ3
 have hb0_3:Hidden (W3.heap[w.heap.size]?=some (st0)):=f3.heap hb0_2 (by omega)
 have hZ:=Nw.nz (z:=W3.heap.size) ((hN.step f3 (fun k hk=>by subst hk;omega)).weak (B':=w.heap.size+1) (by omega)) (Nat.le_refl _)
 obtain rfl:rs = .ok (⟨kind,n⟩,l,.nil,.nil) ts3:=(Option.some.inj (show some _=some rs from hs)).symm
 have fab1:=Fr.alloc (fun _=>False) W3 (.cells #[ci kind,ct n,.slice ao l.len cap,.slice none 0 0,.slice none 0 0] 91)
 have gb1:Fr (fun k=>k=q) w (W3.alloc (.cells #[ci kind,ct n,.slice ao l.len cap,.slice none 0 0,.slice none 0 0] 91)):=g3.same (frq fab1)
 have hPb1:Hidden (Ps (W3.alloc (.cells #[ci kind,ct n,.slice ao l.len cap,.slice none 0 0,.slice none 0 0] 91)) q ts3 d false):=Ps.keepN hP3 fab1
 have hnb1:Hidden ((W3.alloc (.cells #[ci kind,ct n,.slice ao l.len cap,.slice none 0 0,.slice none 0 0] 91)).heap[W3.heap.size]?=some (.cells #[ci kind,ct n,.slice ao l.len cap,.slice none 0 0,.slice none 0 0] 91)):=alloc_new _ _
 have hb0_b1:Hidden ((W3.alloc (.cells #[ci kind,ct n,.slice ao l.len cap,.slice none 0 0,.slice none 0 0] 91)).heap[w.heap.size]?=some (st0)):=fab1.heap hb0_3 (fun f=>f)
 replace hZ:=Nz.step hZ fab1 (fun _ f=>f.elim)
 obtain ⟨b0c0,b0c1,b0c2,b0c3,b0c4,b0z0,b0z1,b0z2,b0z3,b0z4⟩:=box5 hb0_b1
 obtain ⟨b1c0,b1c1,b1c2,b1c3,b1c4,b1z0,b1z1,b1z2,b1z3,b1z4⟩:=box5 hnb1
 go_wp2_with fail
 have fs:=set5_fr (W3.alloc (.cells #[ci kind,ct n,.slice ao l.len cap,.slice none 0 0,.slice none 0 0] 91)) w.heap.size (ci kind) (ct n) (.slice ao l.len cap) (.slice none 0 0) (.slice none 0 0)
 exact post_st hb0_b1 rfl rfl rfl ⟨_,rfl,⟨ao,cap,none,0,none,0,rfl,fun w2 hf=>⟨((hZ.nw.step fs (fun k hk=>by subst hk;omega)).weak (by omega)) w2 hf,stnil _,stnil _⟩⟩,Ps.high hPb1 fs (fun k hk=>by subst hk;exact hq),gb1.over fs (fun k hk=>by subst hk;exact Nat.le_refl _)⟩
include hB
theorem branch_c (q:Nat) (ts:List Tok) (d:Nat) (hd:d≤32) (rs:Pz.Rs Pz.St) (hs:Hidden (Pz.branch E B d ts=some rs)) (w:World) (h:Ps w q ts d false) :
 Calls Tryz.prog 228 #[pp q] w (Out TS q d w rs):=by
 have hq:=h.lt
 have f0:=Fr.alloc (fun _=>False) w st0
 have g0:Fr (fun k=>k=q) w (w.alloc st0):=frq f0
 have hP0:Hidden (Ps (w.alloc st0) q ts d false):=h.keepN f0
 have hb0:Hidden ((w.alloc st0).heap[w.heap.size]?=some st0):=alloc_new _ _
 clear h
 go_enter Tryz.func228,Tryz.ntmps228
 go_wp2_with fail
 go_at_call 156
 obtain ⟨r1,e1,hs⟩:=Pz.bd_some hs
 refine (lone_c hE q ts d hd r1 e1 _ hP0).mono ?_
 clear e1
 rcases r1 with ⟨e,ts1⟩ | ⟨p,c⟩
 rotate_left
 ·obtain rfl:rs = .er p c:=hs
  rintro e W1 ⟨rfl,f1⟩
  unfold gP
  go_wp2_with fail
  exact ⟨rfl,rfl,g0.same f1⟩
 rintro e W1 ⟨v1,rfl,⟨ao,cap,rfl,hN⟩,hQ1,f1⟩
 have g1:=g0.same f1
 have s1:=f1.size
 have t1:=g1.size
 have hP1:Hidden (Ps W1 q ts1 d false):=hQ1
 clear hQ1
 simp only [World.size_alloc] at s1
 have hb0_1:Hidden (W1.heap[w.heap.size]?=some (st0)):=f1.heap hb0 (by omega)
 simp only [World.size_alloc] at hN
 have hZ:=Nw.nz (z:=W1.heap.size) (hN.weak (B':=w.heap.size+1) (by omega)) (Nat.le_refl _)
 have fab1:=Fr.alloc (fun _=>False) W1 (.cells #[ci 3,.string ⟨#[]⟩,.slice ao e.len cap,.slice none 0 0,.slice none 0 0] 91)
 have gb1:Fr (fun k=>k=q) w (W1.alloc (.cells #[ci 3,.string ⟨#[]⟩,.slice ao e.len cap,.slice none 0 0,.slice none 0 0] 91)):=g1.same (frq fab1)
 have hPb1:Hidden (Ps (W1.alloc (.cells #[ci 3,.string ⟨#[]⟩,.slice ao e.len cap,.slice none 0 0,.slice none 0 0] 91)) q ts1 d false):=Ps.keepN hP1 fab1
 have hnb1:Hidden ((W1.alloc (.cells #[ci 3,.string ⟨#[]⟩,.slice ao e.len cap,.slice none 0 0,.slice none 0 0] 91)).heap[W1.heap.size]?=some (.cells #[ci 3,.string ⟨#[]⟩,.slice ao e.len cap,.slice none 0 0,.slice none 0 0] 91)):=alloc_new _ _
 have hb0_b1:Hidden ((W1.alloc (.cells #[ci 3,.string ⟨#[]⟩,.slice ao e.len cap,.slice none 0 0,.slice none 0 0] 91)).heap[w.heap.size]?=some (st0)):=fab1.heap hb0_1 (fun f=>f)
 replace hZ:=Nz.step hZ fab1 (fun _ f=>f.elim)
 go_wp2_with fail
 go_at_call 159
 obtain ⟨r2,e2,hs⟩:=Pz.bd_some hs
 refine (hB d ts1 r2 q _ hd e2 hPb1).mono ?_
 clear e2
 rcases r2 with ⟨b,ts2⟩ | ⟨p,c⟩
 rotate_left
 ·obtain rfl:rs = .er p c:=hs
  rintro e W2 ⟨rfl,f2⟩
  unfold gP
  go_wp2_with fail
  exact ⟨rfl,rfl,gb1.same f2⟩
 rintro e W2 ⟨v2,rfl,⟨ao2,cap2,rfl,hN2⟩,hQ2,f2⟩
 have g2:=gb1.same f2
 have s2:=f2.size
 have t2:=g2.size
 have hP2:Hidden (Ps W2 q ts2 d false):=hQ2
 clear hQ2
 simp only [World.size_alloc] at s2
 have hb0_2:Hidden (W2.heap[w.heap.size]?=some (st0)):=f2.heap hb0_b1 (by omega)
 have hb1_2:Hidden (W2.heap[W1.heap.size]?=some (.cells #[ci 3,.string ⟨#[]⟩,.slice ao e.len cap,.slice none 0 0,.slice none 0 0] 91)):=f2.heap hnb1 (by omega)
 replace hZ:=Nz.step hZ f2 (fun k hk=>by subst hk;omega)
 simp only [World.size_alloc] at hN2
 have hZ2:=Nw.old (z:=W1.heap.size) (B':=w.heap.size+1) hN2 (by omega) (by omega)
 obtain ⟨b1c0,b1c1,b1c2,b1c3,b1c4,b1z0,b1z1,b1z2,b1z3,b1z4⟩:=box5 hb1_2
 go_upto_region 3 with fail
 have f3:=Fr.put W2 (W1.heap.size) 3 (.slice ao2 b.len cap2)
 have hbb1_3:(W2.setCell ⟨W1.heap.size,3,none⟩ (.slice ao2 b.len cap2)).heap[W1.heap.size]?=some (.cells #[ci 3,.string ⟨#[]⟩,.slice ao e.len cap,.slice ao2 b.len cap2,.slice none 0 0] 91):=heap_setCell_same _ _ 3 _ _ _ hb1_2
 have hob0_3:(W2.setCell ⟨W1.heap.size,3,none⟩ (.slice ao2 b.len cap2)).heap[w.heap.size]?=some (st0):=f3.heap hb0_2 (by omega)
 have hP3:Hidden (Ps (W2.setCell ⟨W1.heap.size,3,none⟩ (.slice ao2 b.len cap2)) q ts2 d false):=Ps.high hP2 f3 (fun k hk=>by subst hk;omega)
 have g3:Fr (fun k=>k=q) w (W2.setCell ⟨W1.heap.size,3,none⟩ (.slice ao2 b.len cap2)):=g2.over f3 (fun k hk=>by subst hk;omega)
 have t3:=g3.size
 have s3:=f3.size
 replace hZ:=Nz.step hZ f3 (fun k hk=>by subst hk;omega)
 replace hZ2:=Nz.step hZ2 f3 (fun k hk=>by subst hk;omega)
 generalize (W2.setCell ⟨W1.heap.size,3,none⟩ (.slice ao2 b.len cap2))=W3 at f3 hbb1_3 hob0_3 hP3 g3 t3 s3 hZ hZ2 ⊢
 clear b1c0 b1c1 b1c2 b1c3 b1c4 b1z0 b1z1 b1z2 b1z3 b1z4
 have hhb0_3:Hidden (W3.heap[w.heap.size]?=some (st0)):=hob0_3
 clear hob0_3
 have hhb1_3:Hidden (W3.heap[W1.heap.size]?=some (.cells #[ci 3,.string ⟨#[]⟩,.slice ao e.len cap,.slice ao2 b.len cap2,.slice none 0 0] 91)):=hbb1_3
 clear hbb1_3
 go_wp2_with fail
 go_at_call 110
 obtain ⟨r4,e4,hs⟩:=Pz.bd_some hs
 refine (has_c q [101,108,115,101] ts2 d r4 e4 _ hP3).mono ?_
 clear e4
 rcases r4 with ⟨y,ts4⟩ | ⟨p,c⟩
 rotate_left
 ·obtain rfl:rs = .er p c:=hs
  rintro e W4 ⟨rfl,f4⟩
  unfold gP
  go_wp2_with fail
  exact ⟨rfl,rfl,g3.same f4⟩
 rintro e W4 ⟨v4,rfl,rfl,hQ4,f4⟩
 have g4:=g3.same f4
 have s4:=f4.size
 have t4:=g4.size
 have hP4:Hidden (Ps W4 q ts4 d false):=hQ4
 clear hQ4
 have hb0_4:Hidden (W4.heap[w.heap.size]?=some (st0)):=f4.heap hhb0_3 (by omega)
 have hb1_4:Hidden (W4.heap[W1.heap.size]?=some (.cells #[ci 3,.string ⟨#[]⟩,.slice ao e.len cap,.slice ao2 b.len cap2,.slice none 0 0] 91)):=f4.heap hhb1_3 (by omega)
 replace hZ:=Nz.step hZ f4 (fun k hk=>by subst hk;omega)
 replace hZ2:=Nz.step hZ2 f4 (fun k hk=>by subst hk;omega)
 cases y
 ·skip
  obtain rfl:rs = .ok (⟨3,[]⟩,e,b,.nil) ts4:=(Option.some.inj (show some _=some rs from hs)).symm
  obtain ⟨b0c0,b0c1,b0c2,b0c3,b0c4,b0z0,b0z1,b0z2,b0z3,b0z4⟩:=box5 hb0_4
  obtain ⟨b1c0,b1c1,b1c2,b1c3,b1c4,b1z0,b1z1,b1z2,b1z3,b1z4⟩:=box5 hb1_4
  go_wp2_with fail
  have fs:=set5_fr W4 w.heap.size (ci 3) (.string ⟨#[]⟩) (.slice ao e.len cap) (.slice ao2 b.len cap2) (.slice none 0 0)
  exact post_st hb0_4 rfl rfl rfl ⟨_,rfl,⟨ao,cap,ao2,cap2,none,0,rfl,fun w2 hf=>⟨((hZ.nw.step fs (fun k hk=>by subst hk;omega)).weak (by omega)) w2 hf,((hZ2.nw.step fs (fun k hk=>by subst hk;omega)).weak (by omega)) w2 hf,stnil _⟩⟩,Ps.high hP4 fs (fun k hk=>by subst hk;exact hq),g4.over fs (fun k hk=>by subst hk;exact Nat.le_refl _)⟩
 ·skip
  go_wp2_with fail
  go_at_call 159
  obtain ⟨r5,e5,hs⟩:=Pz.bd_some hs
  refine (hB d ts4 r5 q _ hd e5 hP4).mono ?_
  clear e5
  rcases r5 with ⟨l,ts5⟩ | ⟨p,c⟩
  rotate_left
  ·obtain rfl:rs = .er p c:=hs
   rintro e W5 ⟨rfl,f5⟩
   unfold gP
   go_wp2_with fail
   exact ⟨rfl,rfl,g4.same f5⟩
  rintro e W5 ⟨v5,rfl,⟨ao3,cap3,rfl,hN3⟩,hQ5,f5⟩
  have g5:=g4.same f5
  have s5:=f5.size
  have t5:=g5.size
  have hP5:Hidden (Ps W5 q ts5 d false):=hQ5
  clear hQ5
  have hb0_5:Hidden (W5.heap[w.heap.size]?=some (st0)):=f5.heap hb0_4 (by omega)
  have hb1_5:Hidden (W5.heap[W1.heap.size]?=some (.cells #[ci 3,.string ⟨#[]⟩,.slice ao e.len cap,.slice ao2 b.len cap2,.slice none 0 0] 91)):=f5.heap hb1_4 (by omega)
  replace hZ:=Nz.step hZ f5 (fun k hk=>by subst hk;omega)
  replace hZ2:=Nz.step hZ2 f5 (fun k hk=>by subst hk;omega)
  have hZ3:=Nw.old (z:=W1.heap.size) (B':=w.heap.size+1) hN3 (by omega) (by omega)
  obtain rfl:rs = .ok (⟨3,[]⟩,e,b,l) ts5:=(Option.some.inj (show some _=some rs from hs)).symm
  obtain ⟨b1c0,b1c1,b1c2,b1c3,b1c4,b1z0,b1z1,b1z2,b1z3,b1z4⟩:=box5 hb1_5
  go_upto_region 5 with fail
  have f6:=Fr.put W5 (W1.heap.size) 4 (.slice ao3 l.len cap3)
  have hbb1_6:(W5.setCell ⟨W1.heap.size,4,none⟩ (.slice ao3 l.len cap3)).heap[W1.heap.size]?=some (.cells #[ci 3,.string ⟨#[]⟩,.slice ao e.len cap,.slice ao2 b.len cap2,.slice ao3 l.len cap3] 91):=heap_setCell_same _ _ 4 _ _ _ hb1_5
  have hob0_6:(W5.setCell ⟨W1.heap.size,4,none⟩ (.slice ao3 l.len cap3)).heap[w.heap.size]?=some (st0):=f6.heap hb0_5 (by omega)
  have hP6:Hidden (Ps (W5.setCell ⟨W1.heap.size,4,none⟩ (.slice ao3 l.len cap3)) q ts5 d false):=Ps.high hP5 f6 (fun k hk=>by subst hk;omega)
  have g6:Fr (fun k=>k=q) w (W5.setCell ⟨W1.heap.size,4,none⟩ (.slice ao3 l.len cap3)):=g5.over f6 (fun k hk=>by subst hk;omega)
  have t6:=g6.size
  have s6:=f6.size
  replace hZ:=Nz.step hZ f6 (fun k hk=>by subst hk;omega)
  replace hZ2:=Nz.step hZ2 f6 (fun k hk=>by subst hk;omega)
  replace hZ3:=Nz.step hZ3 f6 (fun k hk=>by subst hk;omega)
  generalize (W5.setCell ⟨W1.heap.size,4,none⟩ (.slice ao3 l.len cap3))=W6 at f6 hbb1_6 hob0_6 hP6 g6 t6 s6 hZ hZ2 hZ3 ⊢
  clear b1c0 b1c1 b1c2 b1c3 b1c4 b1z0 b1z1 b1z2 b1z3 b1z4
  have hhb0_6:Hidden (W6.heap[w.heap.size]?=some (st0)):=hob0_6
  clear hob0_6
  have hhb1_6:Hidden (W6.heap[W1.heap.size]?=some (.cells #[ci 3,.string ⟨#[]⟩,.slice ao e.len cap,.slice ao2 b.len cap2,.slice ao3 l.len cap3] 91)):=hbb1_6
  clear hbb1_6
  obtain ⟨b0c0,b0c1,b0c2,b0c3,b0c4,b0z0,b0z1,b0z2,b0z3,b0z4⟩:=box5 hhb0_6
  obtain ⟨b1c0,b1c1,b1c2,b1c3,b1c4,b1z0,b1z1,b1z2,b1z3,b1z4⟩:=box5 hhb1_6
  go_wp2_with fail
  have fs:=set5_fr W6 w.heap.size (ci 3) (.string ⟨#[]⟩) (.slice ao e.len cap) (.slice ao2 b.len cap2) (.slice ao3 l.len cap3)
  exact post_st hhb0_6 rfl rfl rfl ⟨_,rfl,⟨ao,cap,ao2,cap2,ao3,cap3,rfl,fun w2 hf=>⟨((hZ.nw.step fs (fun k hk=>by subst hk;omega)).weak (by omega)) w2 hf,((hZ2.nw.step fs (fun k hk=>by subst hk;omega)).weak (by omega)) w2 hf,((hZ3.nw.step fs (fun k hk=>by subst hk;omega)).weak (by omega)) w2 hf⟩⟩,Ps.high hP6 fs (fun k hk=>by subst hk;exact hq),g6.over fs (fun k hk=>by subst hk;exact Nat.le_refl _)⟩
omit hE
theorem tried_c (q:Nat) (ts:List Tok) (d:Nat) (hd:d≤32) (rs:Pz.Rs Pz.St) (hs:Hidden (Pz.tried B d ts=some rs)) (w:World) (h:Ps w q ts d false) :
 Calls Tryz.prog 231 #[pp q] w (Out TS q d w rs):=by
 have hq:=h.lt
 have f0:=Fr.alloc (fun _=>False) w st0
 have g0:Fr (fun k=>k=q) w (w.alloc st0):=frq f0
 have hP0:Hidden (Ps (w.alloc st0) q ts d false):=h.keepN f0
 have hb0:Hidden ((w.alloc st0).heap[w.heap.size]?=some st0):=alloc_new _ _
 clear h
 go_enter Tryz.func231,Tryz.ntmps231
 go_wp2_with fail
 go_at_call 159
 obtain ⟨r1,e1,hs⟩:=Pz.bd_some hs
 refine (hB d ts r1 q _ hd e1 hP0).mono ?_
 clear e1
 rcases r1 with ⟨b,ts1⟩ | ⟨p,c⟩
 rotate_left
 ·obtain rfl:rs = .er p c:=hs
  rintro e W1 ⟨rfl,f1⟩
  unfold gP
  go_wp2_with fail
  exact ⟨rfl,rfl,g0.same f1⟩
 rintro e W1 ⟨v1,rfl,⟨ao2,cap2,rfl,hN2⟩,hQ1,f1⟩
 have g1:=g0.same f1
 have s1:=f1.size
 have t1:=g1.size
 have hP1:Hidden (Ps W1 q ts1 d false):=hQ1
 clear hQ1
 simp only [World.size_alloc] at s1
 have hb0_1:Hidden (W1.heap[w.heap.size]?=some (st0)):=f1.heap hb0 (by omega)
 simp only [World.size_alloc] at hN2
 have hZ2:=Nw.nz (z:=W1.heap.size) (hN2.weak (B':=w.heap.size+1) (by omega)) (Nat.le_refl _)
 have fab1:=Fr.alloc (fun _=>False) W1 (.cells #[ci 8,.string ⟨#[]⟩,.slice none 0 0,.slice ao2 b.len cap2,.slice none 0 0] 91)
 have gb1:Fr (fun k=>k=q) w (W1.alloc (.cells #[ci 8,.string ⟨#[]⟩,.slice none 0 0,.slice ao2 b.len cap2,.slice none 0 0] 91)):=g1.same (frq fab1)
 have hPb1:Hidden (Ps (W1.alloc (.cells #[ci 8,.string ⟨#[]⟩,.slice none 0 0,.slice ao2 b.len cap2,.slice none 0 0] 91)) q ts1 d false):=Ps.keepN hP1 fab1
 have hnb1:Hidden ((W1.alloc (.cells #[ci 8,.string ⟨#[]⟩,.slice none 0 0,.slice ao2 b.len cap2,.slice none 0 0] 91)).heap[W1.heap.size]?=some (.cells #[ci 8,.string ⟨#[]⟩,.slice none 0 0,.slice ao2 b.len cap2,.slice none 0 0] 91)):=alloc_new _ _
 have hb0_b1:Hidden ((W1.alloc (.cells #[ci 8,.string ⟨#[]⟩,.slice none 0 0,.slice ao2 b.len cap2,.slice none 0 0] 91)).heap[w.heap.size]?=some (st0)):=fab1.heap hb0_1 (fun f=>f)
 replace hZ2:=Nz.step hZ2 fab1 (fun _ f=>f.elim)
 go_wp2_with fail
 go_at_call 63
 obtain ⟨r2,e2,hs⟩:=Pz.bd_some hs
 refine (must_c q [99,97,116,99,104] ts1 d false r2 e2 _ hPb1).mono ?_
 clear e2
 rcases r2 with ⟨u,ts2⟩ | ⟨p,c⟩
 rotate_left
 ·obtain rfl:rs = .er p c:=hs
  rintro e W2 ⟨rfl,f2⟩
  unfold gP
  go_wp2_with fail
  exact ⟨rfl,rfl,gb1.same f2⟩
 rintro e W2 ⟨v2,rfl,rfl,hQ2,f2⟩
 have g2:=gb1.same f2
 have s2:=f2.size
 have t2:=g2.size
 have hP2:Hidden (Ps W2 q ts2 d false):=hQ2
 clear hQ2
 simp only [World.size_alloc] at s2
 have hb0_2:Hidden (W2.heap[w.heap.size]?=some (st0)):=f2.heap hb0_b1 (by omega)
 have hb1_2:Hidden (W2.heap[W1.heap.size]?=some (.cells #[ci 8,.string ⟨#[]⟩,.slice none 0 0,.slice ao2 b.len cap2,.slice none 0 0] 91)):=f2.heap hnb1 (by omega)
 replace hZ2:=Nz.step hZ2 f2 (fun k hk=>by subst hk;omega)
 go_wp2_with fail
 go_at_call 64
 obtain ⟨r3,e3,hs⟩:=Pz.bd_some hs
 refine (name_c q ts2 d false r3 e3 _ hP2).mono ?_
 clear e3
 rcases r3 with ⟨n,ts3⟩ | ⟨p,c⟩
 rotate_left
 ·obtain rfl:rs = .er p c:=hs
  rintro e W3 ⟨rfl,f3⟩
  unfold gP
  go_wp2_with fail
  exact ⟨rfl,rfl,g2.same f3⟩
 rintro e W3 ⟨v3,rfl,rfl,hQ3,f3⟩
 have g3:=g2.same f3
 have s3:=f3.size
 have t3:=g3.size
 have hP3:Hidden (Ps W3 q ts3 d false):=hQ3
 clear hQ3
 have hb0_3:Hidden (W3.heap[w.heap.size]?=some (st0)):=f3.heap hb0_2 (by omega)
 have hb1_3:Hidden (W3.heap[W1.heap.size]?=some (.cells #[ci 8,.string ⟨#[]⟩,.slice none 0 0,.slice ao2 b.len cap2,.slice none 0 0] 91)):=f3.heap hb1_2 (by omega)
 replace hZ2:=Nz.step hZ2 f3 (fun k hk=>by subst hk;omega)
 obtain ⟨b1c0,b1c1,b1c2,b1c3,b1c4,b1z0,b1z1,b1z2,b1z3,b1z4⟩:=box5 hb1_3
 go_upto_region 4 with fail
 have f4:=Fr.put W3 (W1.heap.size) 1 (ct n)
 have hbb1_4:(W3.setCell ⟨W1.heap.size,1,none⟩ (ct n)).heap[W1.heap.size]?=some (.cells #[ci 8,ct n,.slice none 0 0,.slice ao2 b.len cap2,.slice none 0 0] 91):=heap_setCell_same _ _ 1 _ _ _ hb1_3
 have hob0_4:(W3.setCell ⟨W1.heap.size,1,none⟩ (ct n)).heap[w.heap.size]?=some (st0):=f4.heap hb0_3 (by omega)
 have hP4:Hidden (Ps (W3.setCell ⟨W1.heap.size,1,none⟩ (ct n)) q ts3 d false):=Ps.high hP3 f4 (fun k hk=>by subst hk;omega)
 have g4:Fr (fun k=>k=q) w (W3.setCell ⟨W1.heap.size,1,none⟩ (ct n)):=g3.over f4 (fun k hk=>by subst hk;omega)
 have t4:=g4.size
 have s4:=f4.size
 replace hZ2:=Nz.step hZ2 f4 (fun k hk=>by subst hk;omega)
 generalize (W3.setCell ⟨W1.heap.size,1,none⟩ (ct n))=W4 at f4 hbb1_4 hob0_4 hP4 g4 t4 s4 hZ2 ⊢
 clear b1c0 b1c1 b1c2 b1c3 b1c4 b1z0 b1z1 b1z2 b1z3 b1z4
 have hhb0_4:Hidden (W4.heap[w.heap.size]?=some (st0)):=hob0_4
 clear hob0_4
 have hhb1_4:Hidden (W4.heap[W1.heap.size]?=some (.cells #[ci 8,ct n,.slice none 0 0,.slice ao2 b.len cap2,.slice none 0 0] 91)):=hbb1_4
 clear hbb1_4
 go_wp2_with fail
 go_at_call 159
 obtain ⟨r5,e5,hs⟩:=Pz.bd_some hs
 refine (hB d ts3 r5 q _ hd e5 hP4).mono ?_
 clear e5
 rcases r5 with ⟨l,ts5⟩ | ⟨p,c⟩
 rotate_left
 ·obtain rfl:rs = .er p c:=hs
  rintro e W5 ⟨rfl,f5⟩
  unfold gP
  go_wp2_with fail
  exact ⟨rfl,rfl,g4.same f5⟩
 rintro e W5 ⟨v5,rfl,⟨ao3,cap3,rfl,hN3⟩,hQ5,f5⟩
 have g5:=g4.same f5
 have s5:=f5.size
 have t5:=g5.size
 have hP5:Hidden (Ps W5 q ts5 d false):=hQ5
 clear hQ5
 have hb0_5:Hidden (W5.heap[w.heap.size]?=some (st0)):=f5.heap hhb0_4 (by omega)
 have hb1_5:Hidden (W5.heap[W1.heap.size]?=some (.cells #[ci 8,ct n,.slice none 0 0,.slice ao2 b.len cap2,.slice none 0 0] 91)):=f5.heap hhb1_4 (by omega)
 replace hZ2:=Nz.step hZ2 f5 (fun k hk=>by subst hk;omega)
 have hZ3:=Nw.old (z:=W1.heap.size) (B':=w.heap.size+1) hN3 (by omega) (by omega)
 obtain rfl:rs = .ok (⟨8,n⟩,.nil,b,l) ts5:=(Option.some.inj (show some _=some rs from hs)).symm
 obtain ⟨b1c0,b1c1,b1c2,b1c3,b1c4,b1z0,b1z1,b1z2,b1z3,b1z4⟩:=box5 hb1_5
 go_upto_region 5 with fail
 have f6:=Fr.put W5 (W1.heap.size) 4 (.slice ao3 l.len cap3)
 have hbb1_6:(W5.setCell ⟨W1.heap.size,4,none⟩ (.slice ao3 l.len cap3)).heap[W1.heap.size]?=some (.cells #[ci 8,ct n,.slice none 0 0,.slice ao2 b.len cap2,.slice ao3 l.len cap3] 91):=heap_setCell_same _ _ 4 _ _ _ hb1_5
 have hob0_6:(W5.setCell ⟨W1.heap.size,4,none⟩ (.slice ao3 l.len cap3)).heap[w.heap.size]?=some (st0):=f6.heap hb0_5 (by omega)
 have hP6:Hidden (Ps (W5.setCell ⟨W1.heap.size,4,none⟩ (.slice ao3 l.len cap3)) q ts5 d false):=Ps.high hP5 f6 (fun k hk=>by subst hk;omega)
 have g6:Fr (fun k=>k=q) w (W5.setCell ⟨W1.heap.size,4,none⟩ (.slice ao3 l.len cap3)):=g5.over f6 (fun k hk=>by subst hk;omega)
 have t6:=g6.size
 have s6:=f6.size
 replace hZ2:=Nz.step hZ2 f6 (fun k hk=>by subst hk;omega)
 replace hZ3:=Nz.step hZ3 f6 (fun k hk=>by subst hk;omega)
 generalize (W5.setCell ⟨W1.heap.size,4,none⟩ (.slice ao3 l.len cap3))=W6 at f6 hbb1_6 hob0_6 hP6 g6 t6 s6 hZ2 hZ3 ⊢
 clear b1c0 b1c1 b1c2 b1c3 b1c4 b1z0 b1z1 b1z2 b1z3 b1z4
 have hhb0_6:Hidden (W6.heap[w.heap.size]?=some (st0)):=hob0_6
 clear hob0_6
 have hhb1_6:Hidden (W6.heap[W1.heap.size]?=some (.cells #[ci 8,ct n,.slice none 0 0,.slice ao2 b.len cap2,.slice ao3 l.len cap3] 91)):=hbb1_6
 clear hbb1_6
 obtain ⟨b0c0,b0c1,b0c2,b0c3,b0c4,b0z0,b0z1,b0z2,b0z3,b0z4⟩:=box5 hhb0_6
 obtain ⟨b1c0,b1c1,b1c2,b1c3,b1c4,b1z0,b1z1,b1z2,b1z3,b1z4⟩:=box5 hhb1_6
 go_wp2_with fail
 have fs:=set5_fr W6 w.heap.size (ci 8) (ct n) (.slice none 0 0) (.slice ao2 b.len cap2) (.slice ao3 l.len cap3)
 exact post_st hhb0_6 rfl rfl rfl ⟨_,rfl,⟨none,0,ao2,cap2,ao3,cap3,rfl,fun w2 hf=>⟨exnil _,((hZ2.nw.step fs (fun k hk=>by subst hk;omega)).weak (by omega)) w2 hf,((hZ3.nw.step fs (fun k hk=>by subst hk;omega)).weak (by omega)) w2 hf⟩⟩,Ps.high hP6 fs (fun k hk=>by subst hk;exact hq),g6.over fs (fun k hk=>by subst hk;exact Nat.le_refl _)⟩
omit hB
include hE
theorem returned_c (q:Nat) (ts:List Tok) (d:Nat) (hd:d≤32) (rs:Pz.Rs Pz.St) (hs:Hidden (Pz.returned E d ts=some rs)) (w:World) (h:Ps w q ts d false) :
 Calls Tryz.prog 229 #[pp q] w (Out TS q d w rs):=by
 obtain rfl | ⟨t,r,rfl⟩:ts=[]∨∃t r,ts=t::r:=by cases ts with | nil=>exact Or.inl rfl | cons t r=>exact Or.inr ⟨t,r,rfl⟩
 ·exact absurd hs (by simp [Hidden,Pz.returned])
 have hs1:Pz.returned E d (t::r)=some rs:=hs
 rw [Pz.returned] at hs1
 by_cases hx:t.x=[59]
 ·rw [if_pos hx] at hs1
  replace hs:Hidden (Pz.ended 5 [] .nil (t::r)=some rs):=hs1
  clear hs1
  have hq:=h.lt
  have f0:=Fr.alloc (fun _=>False) w st0
  have g0:Fr (fun k=>k=q) w (w.alloc st0):=frq f0
  have hP0:Hidden (Ps (w.alloc st0) q (t::r) d false):=h.keepN f0
  have hb0:Hidden ((w.alloc st0).heap[w.heap.size]?=some st0):=alloc_new _ _
  clear h
  go_enter Tryz.func229,Tryz.ntmps229
  go_wp2_with fail
  go_at_call 65
  refine (is_any q [59] t r d false true (by simp [Hidden,hx]) _ hP0).mono ?_
  rintro e W1 ⟨rfl,F1⟩
  have f1:Fr (fun k=>k=q) _ W1:=frq F1
  have hQ1:=Ps.keepN hP0 F1
  have g1:=g0.same f1
  have s1:=f1.size
  have t1:=g1.size
  have hP1:Hidden (Ps W1 q (t::r) d false):=hQ1
  clear hQ1
  simp only [World.size_alloc] at s1
  have hb0_1:Hidden (W1.heap[w.heap.size]?=some (st0)):=f1.heap hb0 (by omega)
  clear hx
  go_wp2_with fail
  go_at_call 230
  obtain ⟨r2,e2,hs⟩:=Pz.bd_some hs
  refine (ended_c q 5 (.slice none 0 0) ⟨_,_,_,rfl⟩ (t::r) d r2 e2 _ hP1).mono ?_
  clear e2
  rcases r2 with ⟨u,ts2⟩ | ⟨p,c⟩
  rotate_left
  ·obtain rfl:rs = .er p c:=hs
   rintro e W2 ⟨rfl,f2⟩
   unfold gP
   go_wp2_with fail
   exact ⟨rfl,rfl,g1.same f2⟩
  rintro e W2 ⟨v2,rfl,rfl,hQ2,f2⟩
  have g2:=g1.same f2
  have s2:=f2.size
  have t2:=g2.size
  have hP2:Hidden (Ps W2 q ts2 d false):=hQ2
  clear hQ2
  have hb0_2:Hidden (W2.heap[w.heap.size]?=some (st0)):=f2.heap hb0_1 (by omega)
  obtain rfl:rs = .ok (⟨5,[]⟩,.nil,.nil,.nil) ts2:=(Option.some.inj (show some _=some rs from hs)).symm
  obtain ⟨b0c0,b0c1,b0c2,b0c3,b0c4,b0z0,b0z1,b0z2,b0z3,b0z4⟩:=box5 hb0_2
  go_wp2_with fail
  have fs:=set5_fr W2 w.heap.size (ci 5) (.string ⟨#[]⟩) (.slice none 0 0) (.slice none 0 0) (.slice none 0 0)
  exact post_st hb0_2 rfl rfl rfl ⟨_,rfl,⟨none,0,none,0,none,0,rfl,fun w2 hf=>⟨exnil _,stnil _,stnil _⟩⟩,Ps.high hP2 fs (fun k hk=>by subst hk;exact hq),g2.over fs (fun k hk=>by subst hk;exact Nat.le_refl _)⟩
 ·rw [if_neg hx] at hs1
  replace hs:Hidden (Pz.bd (Pz.lone E d (t::r)) (fun e ts=>Pz.ended 5 [] e ts)=some rs):=hs1
  clear hs1
  have hq:=h.lt
  have f0:=Fr.alloc (fun _=>False) w st0
  have g0:Fr (fun k=>k=q) w (w.alloc st0):=frq f0
  have hP0:Hidden (Ps (w.alloc st0) q (t::r) d false):=h.keepN f0
  have hb0:Hidden ((w.alloc st0).heap[w.heap.size]?=some st0):=alloc_new _ _
  clear h
  go_enter Tryz.func229,Tryz.ntmps229
  go_wp2_with fail
  go_at_call 65
  refine (is_any q [59] t r d false false (by simpa [Hidden] using hx) _ hP0).mono ?_
  rintro e W1 ⟨rfl,F1⟩
  have f1:Fr (fun k=>k=q) _ W1:=frq F1
  have hQ1:=Ps.keepN hP0 F1
  have g1:=g0.same f1
  have s1:=f1.size
  have t1:=g1.size
  have hP1:Hidden (Ps W1 q (t::r) d false):=hQ1
  clear hQ1
  simp only [World.size_alloc] at s1
  have hb0_1:Hidden (W1.heap[w.heap.size]?=some (st0)):=f1.heap hb0 (by omega)
  clear hx
  go_wp2_with fail
  go_at_call 156
  obtain ⟨r2,e2,hs⟩:=Pz.bd_some hs
  refine (lone_c hE q (t::r) d hd r2 e2 _ hP1).mono ?_
  clear e2
  rcases r2 with ⟨e,ts2⟩ | ⟨p,c⟩
  rotate_left
  ·obtain rfl:rs = .er p c:=hs
   rintro e W2 ⟨rfl,f2⟩
   unfold gP
   go_wp2_with fail
   exact ⟨rfl,rfl,g1.same f2⟩
  rintro e W2 ⟨v2,rfl,⟨ao,cap,rfl,hN⟩,hQ2,f2⟩
  have g2:=g1.same f2
  have s2:=f2.size
  have t2:=g2.size
  have hP2:Hidden (Ps W2 q ts2 d false):=hQ2
  clear hQ2
  have hb0_2:Hidden (W2.heap[w.heap.size]?=some (st0)):=f2.heap hb0_1 (by omega)
  go_wp2_with fail
  go_at_call 230
  obtain ⟨r3,e3,hs⟩:=Pz.bd_some hs
  refine (ended_c q 5 (.slice ao e.len cap) ⟨_,_,_,rfl⟩ ts2 d r3 e3 _ hP2).mono ?_
  clear e3
  rcases r3 with ⟨u,ts3⟩ | ⟨p,c⟩
  rotate_left
  ·obtain rfl:rs = .er p c:=hs
   rintro e W3 ⟨rfl,f3⟩
   unfold gP
   go_wp2_with fail
   exact ⟨rfl,rfl,g2.same f3⟩
  rintro e W3 ⟨v3,rfl,rfl,hQ3,f3⟩
  have g3:=g2.same f3
  have s3:=f3.size
  have t3:=g3.size
  have hP3:Hidden (Ps W3 q ts3 d false):=hQ3
  clear hQ3
  have hb0_3:Hidden (W3.heap[w.heap.size]?=some (st0)):=f3.heap hb0_2 (by omega)
  obtain rfl:rs = .ok (⟨5,[]⟩,e,.nil,.nil) ts3:=(Option.some.inj (show some _=some rs from hs)).symm
  obtain ⟨b0c0,b0c1,b0c2,b0c3,b0c4,b0z0,b0z1,b0z2,b0z3,b0z4⟩:=box5 hb0_3
  have hM:=hN.step f3 (fun k hk=>by subst hk;omega)
  go_wp2_with fail
  have fs:=set5_fr W3 w.heap.size (ci 5) (.string ⟨#[]⟩) (.slice ao e.len cap) (.slice none 0 0) (.slice none 0 0)
  exact post_st hb0_3 rfl rfl rfl ⟨_,rfl,⟨ao,cap,none,0,none,0,rfl,fun w2 hf=>⟨((hM.step fs (fun k hk=>by subst hk;omega)).weak (by omega)) w2 hf,stnil _,stnil _⟩⟩,Ps.high hP3 fs (fun k hk=>by subst hk;exact hq),g3.over fs (fun k hk=>by subst hk;exact Nat.le_refl _)⟩
include hC
theorem named_c (q:Nat) (ts:List Tok) (d:Nat) (hd:d≤32) (rs:Pz.Rs Pz.St) (hs:Hidden (Pz.named E C d ts=some rs)) (w:World) (h:Ps w q ts d false) :
 Calls Tryz.prog 226 #[pp q] w (Out TS q d w rs):=by
 have hq:=h.lt
 have f0:=Fr.alloc (fun _=>False) w st0
 have g0:Fr (fun k=>k=q) w (w.alloc st0):=frq f0
 have hP0:Hidden (Ps (w.alloc st0) q ts d false):=h.keepN f0
 have hb0:Hidden ((w.alloc st0).heap[w.heap.size]?=some st0):=alloc_new _ _
 clear h
 go_enter Tryz.func226,Tryz.ntmps226
 go_wp2_with fail
 go_at_call 223
 obtain ⟨r1,e1,hs⟩:=Pz.bd_some hs
 refine (refr_c q ts d false r1 e1 _ hP0).mono ?_
 clear e1
 rcases r1 with ⟨x,ts1⟩ | ⟨p,c⟩
 rotate_left
 ·obtain rfl:rs = .er p c:=hs
  rintro e W1 ⟨rfl,f1⟩
  unfold gP
  go_wp2_with fail
  exact ⟨rfl,rfl,g0.same f1⟩
 rintro e W1 ⟨v1,rfl,⟨ao,cap,rfl,hN⟩,hQ1,f1⟩
 have g1:=g0.same f1
 have s1:=f1.size
 have t1:=g1.size
 have hP1:Hidden (Ps W1 q ts1 d false):=hQ1
 clear hQ1
 simp only [World.size_alloc] at s1
 have hb0_1:Hidden (W1.heap[w.heap.size]?=some (st0)):=f1.heap hb0 (by omega)
 have fab1:=Fr.alloc (fun _=>False) W1 (.cells #[ci x.1.kind,ci x.1.op,ct x.1.mod,ct x.1.name,ci x.1.vt,.int .u64 x.1.vb,.slice ao x.2.len cap] 59)
 have gb1:Fr (fun k=>k=q) w (W1.alloc (.cells #[ci x.1.kind,ci x.1.op,ct x.1.mod,ct x.1.name,ci x.1.vt,.int .u64 x.1.vb,.slice ao x.2.len cap] 59)):=g1.same (frq fab1)
 have hPb1:Hidden (Ps (W1.alloc (.cells #[ci x.1.kind,ci x.1.op,ct x.1.mod,ct x.1.name,ci x.1.vt,.int .u64 x.1.vb,.slice ao x.2.len cap] 59)) q ts1 d false):=Ps.keepN hP1 fab1
 have hnb1:Hidden ((W1.alloc (.cells #[ci x.1.kind,ci x.1.op,ct x.1.mod,ct x.1.name,ci x.1.vt,.int .u64 x.1.vb,.slice ao x.2.len cap] 59)).heap[W1.heap.size]?=some (.cells #[ci x.1.kind,ci x.1.op,ct x.1.mod,ct x.1.name,ci x.1.vt,.int .u64 x.1.vb,.slice ao x.2.len cap] 59)):=alloc_new _ _
 have hb0_b1:Hidden ((W1.alloc (.cells #[ci x.1.kind,ci x.1.op,ct x.1.mod,ct x.1.name,ci x.1.vt,.int .u64 x.1.vb,.slice ao x.2.len cap] 59)).heap[w.heap.size]?=some (st0)):=fab1.heap hb0_1 (fun f=>f)
 obtain ⟨u,us,rfl⟩:∃u us,ts1=u::us:=by
  cases ts1 with
  | nil=>exact absurd hs (by simp [Hidden])
  | cons u us=>exact ⟨u,us,rfl⟩
 replace hs:Hidden ((if x.1.kind=2∧u.x=[61] then Pz.asg E d 2 x.1.name (u::us) else Pz.bd (C d x (u::us)) fun c ts=>Pz.ended 9 [] (.cons c.1 c.2 .nil) ts)=some rs):=hs
 obtain ⟨b1c0,b1c1,b1c2,b1c3,b1c4,b1c5,b1c6,b1z0,b1z1,b1z2,b1z3,b1z4,b1z5,b1z6⟩:=box7 hnb1
 by_cases hk:x.1.kind=2
 ·skip
  have hkb:(x.1.kind == 2)=true:=by simp [hk]
  by_cases hx:u.x=[61]
  ·skip
   replace hs:Hidden (Pz.asg E d 2 x.1.name (u::us)=some rs):=by
    have h1:(if x.1.kind=2∧u.x=[61] then Pz.asg E d 2 x.1.name (u::us) else Pz.bd (C d x (u::us)) fun c ts=>Pz.ended 9 [] (.cons c.1 c.2 .nil) ts)=some rs:=hs
    rw [if_pos ⟨hk,hx⟩] at h1
    exact h1
   clear hk
   go_wp2_with fail
   go_at_call 65
   refine (is_any q [61] u us d false true (by simp [Hidden,hx]) _ hPb1).mono ?_
   rintro e W2 ⟨rfl,F2⟩
   have f2:Fr (fun k=>k=q) _ W2:=frq F2
   have hQ2:=Ps.keepN hPb1 F2
   have g2:=gb1.same f2
   have s2:=f2.size
   have t2:=g2.size
   have hP2:Hidden (Ps W2 q (u::us) d false):=hQ2
   clear hQ2
   simp only [World.size_alloc] at s2
   have hb0_2:Hidden (W2.heap[w.heap.size]?=some (st0)):=f2.heap hb0_b1 (by omega)
   have hb1_2:Hidden (W2.heap[W1.heap.size]?=some (.cells #[ci x.1.kind,ci x.1.op,ct x.1.mod,ct x.1.name,ci x.1.vt,.int .u64 x.1.vb,.slice ao x.2.len cap] 59)):=f2.heap hnb1 (by omega)
   clear hx b1c0 b1c1 b1c2 b1c3 b1c4 b1c5 b1c6 b1z0 b1z1 b1z2 b1z3 b1z4 b1z5 b1z6
   obtain ⟨b1c0,b1c1,b1c2,b1c3,b1c4,b1c5,b1c6,b1z0,b1z1,b1z2,b1z3,b1z4,b1z5,b1z6⟩:=box7 hb1_2
   go_wp2_with fail
   go_at_call 227
   obtain ⟨r3,e3,hs⟩:∃r,_=some r∧Hidden (r=rs):=⟨rs,hs,rfl⟩
   refine (asg_c hE q 2 x.1.name (u::us) d hd r3 e3 _ hP2).mono ?_
   clear e3
   rcases r3 with ⟨s,ts3⟩ | ⟨p,c⟩
   rotate_left
   ·obtain rfl:.er p c=rs:=hs
    rintro e W3 ⟨rfl,f3⟩
    unfold gP
    go_wp2_with fail
    exact ⟨rfl,rfl,g2.same f3⟩
   rintro e W3 ⟨v3,rfl,⟨ao1,cap1,ao2,cap2,ao3,cap3,rfl,hM⟩,hQ3,f3⟩
   have g3:=g2.same f3
   have s3:=f3.size
   have t3:=g3.size
   have hP3:Hidden (Ps W3 q ts3 d false):=hQ3
   clear hQ3
   have hb0_3:Hidden (W3.heap[w.heap.size]?=some (st0)):=f3.heap hb0_2 (by omega)
   have hb1_3:Hidden (W3.heap[W1.heap.size]?=some (.cells #[ci x.1.kind,ci x.1.op,ct x.1.mod,ct x.1.name,ci x.1.vt,.int .u64 x.1.vb,.slice ao x.2.len cap] 59)):=f3.heap hb1_2 (by omega)
   obtain rfl:.ok s ts3=rs:=hs
   obtain ⟨b0c0,b0c1,b0c2,b0c3,b0c4,b0z0,b0z1,b0z2,b0z3,b0z4⟩:=box5 hb0_3
   go_wp2_with fail
   have fs:=set5_fr W3 w.heap.size (ci s.1.kind) (ct s.1.name) (.slice ao1 s.2.1.len cap1) (.slice ao2 s.2.2.1.len cap2) (.slice ao3 s.2.2.2.len cap3)
   exact post_st hb0_3 rfl rfl rfl ⟨_,rfl,⟨ao1,cap1,ao2,cap2,ao3,cap3,rfl,(hM.step fs (fun k hk=>by subst hk;omega)).weak (by omega)⟩,Ps.high hP3 fs (fun k hk=>by subst hk;exact hq),g3.over fs (fun k hk=>by subst hk;exact Nat.le_refl _)⟩
  ·skip
   replace hs:Hidden (Pz.bd (C d x (u::us)) (fun c ts=>Pz.ended 9 [] (.cons c.1 c.2 .nil) ts)=some rs):=by
    have h1:(if x.1.kind=2∧u.x=[61] then Pz.asg E d 2 x.1.name (u::us) else Pz.bd (C d x (u::us)) fun c ts=>Pz.ended 9 [] (.cons c.1 c.2 .nil) ts)=some rs:=hs
    rw [if_neg (fun h=>hx h.2)] at h1
    exact h1
   clear hk
   go_wp2_with fail
   go_at_call 65
   refine (is_any q [61] u us d false false (by simpa [Hidden] using hx) _ hPb1).mono ?_
   rintro e W2 ⟨rfl,F2⟩
   have f2:Fr (fun k=>k=q) _ W2:=frq F2
   have hQ2:=Ps.keepN hPb1 F2
   have g2:=gb1.same f2
   have s2:=f2.size
   have t2:=g2.size
   have hP2:Hidden (Ps W2 q (u::us) d false):=hQ2
   clear hQ2
   simp only [World.size_alloc] at s2
   have hb0_2:Hidden (W2.heap[w.heap.size]?=some (st0)):=f2.heap hb0_b1 (by omega)
   have hb1_2:Hidden (W2.heap[W1.heap.size]?=some (.cells #[ci x.1.kind,ci x.1.op,ct x.1.mod,ct x.1.name,ci x.1.vt,.int .u64 x.1.vb,.slice ao x.2.len cap] 59)):=f2.heap hnb1 (by omega)
   clear hx b1c0 b1c1 b1c2 b1c3 b1c4 b1c5 b1c6 b1z0 b1z1 b1z2 b1z3 b1z4 b1z5 b1z6
   obtain ⟨b1c0,b1c1,b1c2,b1c3,b1c4,b1c5,b1c6,b1z0,b1z1,b1z2,b1z3,b1z4,b1z5,b1z6⟩:=box7 hb1_2
   go_wp2_with fail
   go_at_call 224
   obtain ⟨r3,e3,hs⟩:=Pz.bd_some hs
   refine (hC d x ao x.2.len cap (u::us) r3 q _ hd e3 hP2).mono ?_
   clear e3
   rcases r3 with ⟨c2,ts3⟩ | ⟨p,c⟩
   rotate_left
   ·obtain rfl:rs = .er p c:=hs
    rintro e W3 ⟨rfl,f3⟩
    unfold gP
    go_wp2_with fail
    exact ⟨rfl,rfl,g2.same f3⟩
   rintro e W3 ⟨v3,rfl,⟨ao4,cap4,rfl,hM⟩,hQ3,f3⟩
   have g3:=g2.same f3
   have s3:=f3.size
   have t3:=g3.size
   have hP3:Hidden (Ps W3 q ts3 d false):=hQ3
   clear hQ3
   have hb0_3:Hidden (W3.heap[w.heap.size]?=some (st0)):=f3.heap hb0_2 (by omega)
   have hb1_3:Hidden (W3.heap[W1.heap.size]?=some (.cells #[ci x.1.kind,ci x.1.op,ct x.1.mod,ct x.1.name,ci x.1.vt,.int .u64 x.1.vb,.slice ao x.2.len cap] 59)):=f3.heap hb1_2 (by omega)
   have bM:=hM.weak (B':=w.heap.size+1) (by first | omega | (simp only [World.size_alloc];omega))
   have fab2:=Fr.alloc (fun _=>False) W3 (.cells #[ci c2.1.kind,ci c2.1.op,ct c2.1.mod,ct c2.1.name,ci c2.1.vt,.int .u64 c2.1.vb,.slice ao4 c2.2.len cap4] 59)
   have gb2:Fr (fun k=>k=q) w (W3.alloc (.cells #[ci c2.1.kind,ci c2.1.op,ct c2.1.mod,ct c2.1.name,ci c2.1.vt,.int .u64 c2.1.vb,.slice ao4 c2.2.len cap4] 59)):=g3.same (frq fab2)
   have hPb2:Hidden (Ps (W3.alloc (.cells #[ci c2.1.kind,ci c2.1.op,ct c2.1.mod,ct c2.1.name,ci c2.1.vt,.int .u64 c2.1.vb,.slice ao4 c2.2.len cap4] 59)) q ts3 d false):=Ps.keepN hP3 fab2
   have hnb2:Hidden ((W3.alloc (.cells #[ci c2.1.kind,ci c2.1.op,ct c2.1.mod,ct c2.1.name,ci c2.1.vt,.int .u64 c2.1.vb,.slice ao4 c2.2.len cap4] 59)).heap[W3.heap.size]?=some (.cells #[ci c2.1.kind,ci c2.1.op,ct c2.1.mod,ct c2.1.name,ci c2.1.vt,.int .u64 c2.1.vb,.slice ao4 c2.2.len cap4] 59)):=alloc_new _ _
   have hb0_b2:Hidden ((W3.alloc (.cells #[ci c2.1.kind,ci c2.1.op,ct c2.1.mod,ct c2.1.name,ci c2.1.vt,.int .u64 c2.1.vb,.slice ao4 c2.2.len cap4] 59)).heap[w.heap.size]?=some (st0)):=fab2.heap hb0_3 (fun f=>f)
   have hb1_b2:Hidden ((W3.alloc (.cells #[ci c2.1.kind,ci c2.1.op,ct c2.1.mod,ct c2.1.name,ci c2.1.vt,.int .u64 c2.1.vb,.slice ao4 c2.2.len cap4] 59)).heap[W1.heap.size]?=some (.cells #[ci x.1.kind,ci x.1.op,ct x.1.mod,ct x.1.name,ci x.1.vt,.int .u64 x.1.vb,.slice ao x.2.len cap] 59)):=fab2.heap hb1_3 (fun f=>f)
   have hM2:=(bM.step fab2 (fun _ f=>f.elim)).one hnb2 (by omega)
   go_wp2_with fail
   go_at_call 230
   obtain ⟨r4,e4,hs⟩:=Pz.bd_some hs
   refine (ended_c q 9 (.slice (some ⟨W3.heap.size,0,none⟩) 1 1) ⟨_,_,_,rfl⟩ ts3 d r4 e4 _ hPb2).mono ?_
   clear e4
   rcases r4 with ⟨u,ts4⟩ | ⟨p,c⟩
   rotate_left
   ·obtain rfl:rs = .er p c:=hs
    rintro e W4 ⟨rfl,f4⟩
    unfold gP
    go_wp2_with fail
    exact ⟨rfl,rfl,gb2.same f4⟩
   rintro e W4 ⟨v4,rfl,rfl,hQ4,f4⟩
   have g4:=gb2.same f4
   have s4:=f4.size
   have t4:=g4.size
   have hP4:Hidden (Ps W4 q ts4 d false):=hQ4
   clear hQ4
   simp only [World.size_alloc] at s4
   have hb0_4:Hidden (W4.heap[w.heap.size]?=some (st0)):=f4.heap hb0_b2 (by omega)
   have hb1_4:Hidden (W4.heap[W1.heap.size]?=some (.cells #[ci x.1.kind,ci x.1.op,ct x.1.mod,ct x.1.name,ci x.1.vt,.int .u64 x.1.vb,.slice ao x.2.len cap] 59)):=f4.heap hb1_b2 (by omega)
   have hb2_4:Hidden (W4.heap[W3.heap.size]?=some (.cells #[ci c2.1.kind,ci c2.1.op,ct c2.1.mod,ct c2.1.name,ci c2.1.vt,.int .u64 c2.1.vb,.slice ao4 c2.2.len cap4] 59)):=f4.heap hnb2 (by omega)
   obtain rfl:rs = .ok (⟨9,[]⟩,.cons c2.1 c2.2 .nil,.nil,.nil) ts4:=(Option.some.inj (show some _=some rs from hs)).symm
   obtain ⟨b0c0,b0c1,b0c2,b0c3,b0c4,b0z0,b0z1,b0z2,b0z3,b0z4⟩:=box5 hb0_4
   have hM3:=hM2.step f4 (fun k hk=>by subst hk;omega)
   go_wp2_with fail
   have fs:=set5_fr W4 w.heap.size (ci 9) (.string ⟨#[]⟩) (.slice (some ⟨W3.heap.size,0,none⟩) 1 1) (.slice none 0 0) (.slice none 0 0)
   exact post_st hb0_4 rfl rfl rfl ⟨_,rfl,⟨some ⟨W3.heap.size,0,none⟩,1,none,0,none,0,rfl,fun w2 hf=>⟨((hM3.step fs (fun k hk=>by subst hk;omega)).weak (by omega)) w2 hf,stnil _,stnil _⟩⟩,Ps.high hP4 fs (fun k hk=>by subst hk;exact hq),g4.over fs (fun k hk=>by subst hk;exact Nat.le_refl _)⟩
 ·skip
  have hkb:(x.1.kind == 2)=false:=by simpa using hk
  replace hs:Hidden (Pz.bd (C d x (u::us)) (fun c ts=>Pz.ended 9 [] (.cons c.1 c.2 .nil) ts)=some rs):=by
   have h1:(if x.1.kind=2∧u.x=[61] then Pz.asg E d 2 x.1.name (u::us) else Pz.bd (C d x (u::us)) fun c ts=>Pz.ended 9 [] (.cons c.1 c.2 .nil) ts)=some rs:=hs
   rw [if_neg (fun h=>hk h.1)] at h1
   exact h1
  clear hk
  go_wp2_with fail
  go_at_call 224
  obtain ⟨r2,e2,hs⟩:=Pz.bd_some hs
  refine (hC d x ao x.2.len cap (u::us) r2 q _ hd e2 hPb1).mono ?_
  clear e2
  rcases r2 with ⟨c2,ts2⟩ | ⟨p,c⟩
  rotate_left
  ·obtain rfl:rs = .er p c:=hs
   rintro e W2 ⟨rfl,f2⟩
   unfold gP
   go_wp2_with fail
   exact ⟨rfl,rfl,gb1.same f2⟩
  rintro e W2 ⟨v2,rfl,⟨ao4,cap4,rfl,hM⟩,hQ2,f2⟩
  have g2:=gb1.same f2
  have s2:=f2.size
  have t2:=g2.size
  have hP2:Hidden (Ps W2 q ts2 d false):=hQ2
  clear hQ2
  simp only [World.size_alloc] at s2
  have hb0_2:Hidden (W2.heap[w.heap.size]?=some (st0)):=f2.heap hb0_b1 (by omega)
  have hb1_2:Hidden (W2.heap[W1.heap.size]?=some (.cells #[ci x.1.kind,ci x.1.op,ct x.1.mod,ct x.1.name,ci x.1.vt,.int .u64 x.1.vb,.slice ao x.2.len cap] 59)):=f2.heap hnb1 (by omega)
  have bM:=hM.weak (B':=w.heap.size+1) (by first | omega | (simp only [World.size_alloc];omega))
  have fab2:=Fr.alloc (fun _=>False) W2 (.cells #[ci c2.1.kind,ci c2.1.op,ct c2.1.mod,ct c2.1.name,ci c2.1.vt,.int .u64 c2.1.vb,.slice ao4 c2.2.len cap4] 59)
  have gb2:Fr (fun k=>k=q) w (W2.alloc (.cells #[ci c2.1.kind,ci c2.1.op,ct c2.1.mod,ct c2.1.name,ci c2.1.vt,.int .u64 c2.1.vb,.slice ao4 c2.2.len cap4] 59)):=g2.same (frq fab2)
  have hPb2:Hidden (Ps (W2.alloc (.cells #[ci c2.1.kind,ci c2.1.op,ct c2.1.mod,ct c2.1.name,ci c2.1.vt,.int .u64 c2.1.vb,.slice ao4 c2.2.len cap4] 59)) q ts2 d false):=Ps.keepN hP2 fab2
  have hnb2:Hidden ((W2.alloc (.cells #[ci c2.1.kind,ci c2.1.op,ct c2.1.mod,ct c2.1.name,ci c2.1.vt,.int .u64 c2.1.vb,.slice ao4 c2.2.len cap4] 59)).heap[W2.heap.size]?=some (.cells #[ci c2.1.kind,ci c2.1.op,ct c2.1.mod,ct c2.1.name,ci c2.1.vt,.int .u64 c2.1.vb,.slice ao4 c2.2.len cap4] 59)):=alloc_new _ _
  have hb0_b2:Hidden ((W2.alloc (.cells #[ci c2.1.kind,ci c2.1.op,ct c2.1.mod,ct c2.1.name,ci c2.1.vt,.int .u64 c2.1.vb,.slice ao4 c2.2.len cap4] 59)).heap[w.heap.size]?=some (st0)):=fab2.heap hb0_2 (fun f=>f)
  have hb1_b2:Hidden ((W2.alloc (.cells #[ci c2.1.kind,ci c2.1.op,ct c2.1.mod,ct c2.1.name,ci c2.1.vt,.int .u64 c2.1.vb,.slice ao4 c2.2.len cap4] 59)).heap[W1.heap.size]?=some (.cells #[ci x.1.kind,ci x.1.op,ct x.1.mod,ct x.1.name,ci x.1.vt,.int .u64 x.1.vb,.slice ao x.2.len cap] 59)):=fab2.heap hb1_2 (fun f=>f)
  have hM2:=(bM.step fab2 (fun _ f=>f.elim)).one hnb2 (by omega)
  go_wp2_with fail
  go_at_call 230
  obtain ⟨r3,e3,hs⟩:=Pz.bd_some hs
  refine (ended_c q 9 (.slice (some ⟨W2.heap.size,0,none⟩) 1 1) ⟨_,_,_,rfl⟩ ts2 d r3 e3 _ hPb2).mono ?_
  clear e3
  rcases r3 with ⟨u,ts3⟩ | ⟨p,c⟩
  rotate_left
  ·obtain rfl:rs = .er p c:=hs
   rintro e W3 ⟨rfl,f3⟩
   unfold gP
   go_wp2_with fail
   exact ⟨rfl,rfl,gb2.same f3⟩
  rintro e W3 ⟨v3,rfl,rfl,hQ3,f3⟩
  have g3:=gb2.same f3
  have s3:=f3.size
  have t3:=g3.size
  have hP3:Hidden (Ps W3 q ts3 d false):=hQ3
  clear hQ3
  simp only [World.size_alloc] at s3
  have hb0_3:Hidden (W3.heap[w.heap.size]?=some (st0)):=f3.heap hb0_b2 (by omega)
  have hb1_3:Hidden (W3.heap[W1.heap.size]?=some (.cells #[ci x.1.kind,ci x.1.op,ct x.1.mod,ct x.1.name,ci x.1.vt,.int .u64 x.1.vb,.slice ao x.2.len cap] 59)):=f3.heap hb1_b2 (by omega)
  have hb2_3:Hidden (W3.heap[W2.heap.size]?=some (.cells #[ci c2.1.kind,ci c2.1.op,ct c2.1.mod,ct c2.1.name,ci c2.1.vt,.int .u64 c2.1.vb,.slice ao4 c2.2.len cap4] 59)):=f3.heap hnb2 (by omega)
  obtain rfl:rs = .ok (⟨9,[]⟩,.cons c2.1 c2.2 .nil,.nil,.nil) ts3:=(Option.some.inj (show some _=some rs from hs)).symm
  obtain ⟨b0c0,b0c1,b0c2,b0c3,b0c4,b0z0,b0z1,b0z2,b0z3,b0z4⟩:=box5 hb0_3
  have hM3:=hM2.step f3 (fun k hk=>by subst hk;omega)
  go_wp2_with fail
  have fs:=set5_fr W3 w.heap.size (ci 9) (.string ⟨#[]⟩) (.slice (some ⟨W2.heap.size,0,none⟩) 1 1) (.slice none 0 0) (.slice none 0 0)
  exact post_st hb0_3 rfl rfl rfl ⟨_,rfl,⟨some ⟨W2.heap.size,0,none⟩,1,none,0,none,0,rfl,fun w2 hf=>⟨((hM3.step fs (fun k hk=>by subst hk;omega)).weak (by omega)) w2 hf,stnil _,stnil _⟩⟩,Ps.high hP3 fs (fun k hk=>by subst hk;exact hq),g3.over fs (fun k hk=>by subst hk;exact Nat.le_refl _)⟩
end
end
end Go.Proofs.YteijjaabngkbjaaGreatDoor
