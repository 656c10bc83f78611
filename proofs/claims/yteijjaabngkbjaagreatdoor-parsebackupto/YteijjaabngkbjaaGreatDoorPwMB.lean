/- PwL PwM -/
import Derived.Test.YteijjaabngkbjaaGreatDoorPwK
import Derived.Test.YteijjaabngkbjaaGreatDoorLxAll
import Derived.Recover
set_option maxRecDepth 100000
set_option maxHeartbeats 40000000
set_option linter.unusedVariables false
set_option linter.unusedSimpArgs false
set_option linter.unusedSectionVars false
namespace Go.Proofs.YteijjaabngkbjaaGreatDoor
section
open Go.RowKit Lx Te
def TM (m:Mo) (v:Value) (w w':World):Prop:=∃ao cap ao' cap',v = .agg #[ct m.name,.slice ao m.imports.length cap,.slice ao' m.decls.length cap']∧Nw w.heap.size w' (fun w=>SvL w ao cap m.imports∧DeL w ao' cap' m.decls)
theorem info_mo:(Tryz.prog.info? 25).map (·.size)=some 3:=by kernel_rfl
abbrev mo0:Obj:=.cells #[.string ⟨#[]⟩,.slice none 0 0,.slice none 0 0] 25 (0,0)
theorem set_three {w:World} {g:Nat} {a b c:Value} {t:TypeId} (hg:w.heap[g]?=some (.cells #[a,b,c] t (0,0))) (v0 v1 v2:Value) :
 (((w.setCell ⟨g,0,none⟩ v0).setCell ⟨g,1,none⟩ v1).setCell ⟨g,2,none⟩ v2).heap[g]?=some (.cells #[v0,v1,v2] t (0,0)):=by
 have h1:=heap_setCell_same w g 0 _ t v0 hg
 have h2:=heap_setCell_same _ g 1 _ t v1 h1
 exact heap_setCell_same _ g 2 _ t v2 h2
theorem beqN (n k:Nat):((n:Int) == (k:Int))=(n == k):=by
 by_cases h:n=k
 ·subst h;simp
 ·have h1:(n == k)=false:=by simpa using h
  rw [h1,beq_eq_false_iff_ne]
  omega
theorem mdl_c (g:Nat) (hg:g≤3000) (q:Nat) (ts:List Tok) (rs:Pz.Rs Mo) (hs:Hidden (Pz.mdl g ts=some rs)) (w:World) (h:Ps w q ts 0 false) :
 Calls Tryz.prog 33 #[pp q] w (Out TM q 0 w rs):=by
 have hE:CE0 (Pz.E0 g):=fun d ts rs q w hd hs h=>expr_c g hg false d ts rs q w hd hs h
 have hC:CC0 (Pz.C0 g):=fun d x ao n cap ts rs q w hd hs h=>call_c (expr_c g hg) g hg q x ao n cap ts d hd rs hs w h
 have hB:CB0 (Pz.B0 g):=blk_c hE hC g hg g
 have kD:=fun (acc:List De) ts rs w=>dcl_c hE hB g hg q ts (acc.length == 64) rs (w:=w)
 clear hE hC hB
 have hq:=h.lt
 have f0:=Fr.alloc (fun _=>False) w mo0
 have g0:Fr (fun k=>k=q) w (w.alloc mo0):=frq f0
 have hP0:Hidden (Ps (w.alloc mo0) q ts 0 false):=h.keepN f0
 have hb0:Hidden ((w.alloc mo0).heap[w.heap.size]?=some mo0):=alloc_new _ _
 clear h
 go_enter Tryz.func33,Tryz.ntmps33
 go_wp2_with fail
 go_at_call 63
 obtain ⟨r1,e1,hs⟩:=Pz.bd_some hs
 refine (must_c q [109,111,100,117,108,101] ts 0 false r1 e1 _ hP0).mono ?_
 clear e1
 rcases r1 with ⟨u,ts1⟩ | ⟨p,c⟩
 rotate_left
 ·obtain rfl:rs = .er p c:=hs
  rintro e W1 ⟨rfl,f1⟩
  unfold gP
  go_wp2_with fail
  exact ⟨rfl,rfl,g0.same f1⟩
 rintro e W1 ⟨v1,rfl,rfl,hQ1,f1⟩
 have g1:=g0.same f1
 have s1:=f1.size
 have t1:=g1.size
 have hP1:Hidden (Ps W1 q ts1 0 false):=hQ1
 clear hQ1
 simp only [World.size_alloc] at s1
 have hb0_1:Hidden (W1.heap[w.heap.size]?=some (mo0)):=f1.heap hb0 (by omega)
 go_wp2_with fail
 go_at_call 64
 obtain ⟨r2,e2,hs⟩:=Pz.bd_some hs
 refine (name_c q ts1 0 false r2 e2 _ hP1).mono ?_
 clear e2
 rcases r2 with ⟨n,ts2⟩ | ⟨p,c⟩
 rotate_left
 ·obtain rfl:rs = .er p c:=hs
  rintro e W2 ⟨rfl,f2⟩
  unfold gP
  go_wp2_with fail
  exact ⟨rfl,rfl,g1.same f2⟩
 rintro e W2 ⟨v2,rfl,rfl,hQ2,f2⟩
 have g2:=g1.same f2
 have s2:=f2.size
 have t2:=g2.size
 have hP2:Hidden (Ps W2 q ts2 0 false):=hQ2
 clear hQ2
 have hb0_2:Hidden (W2.heap[w.heap.size]?=some (mo0)):=f2.heap hb0_1 (by omega)
 have fab1:=Fr.alloc (fun _=>False) W2 (.cells #[ct n,.slice none 0 0,.slice none 0 0] 25)
 have gb1:Fr (fun k=>k=q) w (W2.alloc (.cells #[ct n,.slice none 0 0,.slice none 0 0] 25)):=g2.same (frq fab1)
 have hPb1:Hidden (Ps (W2.alloc (.cells #[ct n,.slice none 0 0,.slice none 0 0] 25)) q ts2 0 false):=Ps.keepN hP2 fab1
 have hnb1:Hidden ((W2.alloc (.cells #[ct n,.slice none 0 0,.slice none 0 0] 25)).heap[W2.heap.size]?=some (.cells #[ct n,.slice none 0 0,.slice none 0 0] 25)):=alloc_new _ _
 have hb0_b1:Hidden ((W2.alloc (.cells #[ct n,.slice none 0 0,.slice none 0 0] 25)).heap[w.heap.size]?=some (mo0)):=fab1.heap hb0_2 (fun f=>f)
 go_wp2_with fail
 go_at_call 63
 obtain ⟨r3,e3,hs⟩:=Pz.bd_some hs
 refine (must_c q [59] ts2 0 false r3 e3 _ hPb1).mono ?_
 clear e3
 rcases r3 with ⟨u3,ts3⟩ | ⟨p,c⟩
 rotate_left
 ·obtain rfl:rs = .er p c:=hs
  rintro e W3 ⟨rfl,f3⟩
  unfold gP
  go_wp2_with fail
  exact ⟨rfl,rfl,gb1.same f3⟩
 rintro e W3 ⟨v3,rfl,rfl,hQ3,f3⟩
 have g3:=gb1.same f3
 have s3:=f3.size
 have t3:=g3.size
 have hP3:Hidden (Ps W3 q ts3 0 false):=hQ3
 clear hQ3
 simp only [World.size_alloc] at s3
 have hb0_3:Hidden (W3.heap[w.heap.size]?=some (mo0)):=f3.heap hb0_b1 (by omega)
 have hb1_3:Hidden (W3.heap[W2.heap.size]?=some (.cells #[ct n,.slice none 0 0,.slice none 0 0] 25)):=f3.heap hnb1 (by omega)
 obtain ⟨r4,e4,hs⟩:=Pz.bd_some hs
 have hs4:Hidden (Pz.imps g [] ts3=some r4):=e4
 clear e4
 go_wp2_with fail
 have hsB:W2.heap.size+1≤W3.heap.size:=s3
 go_loopg [12] g (fun k _ wr=>∃(lv:Value) (acc:List Bs) (us:List Tok),Pz.imps k acc us=some r4∧wr.heap[W2.heap.size]?=some (.cells #[ct n,lv,.slice none 0 0] 25 (0,0))∧wr.heap[w.heap.size]?=some mo0∧Row RT 9 1 wr W3.heap.size lv acc∧acc.length+k≤g∧Ps wr q us 0 false∧Fr (fun k=>k=q) w wr∧W3.heap.size≤wr.heap.size)
 case atStart=>exact ⟨.slice none 0 0,[],ts3,hs4,hb1_3,hb0_3,Row.nil _ _ _ _ _,by simp,hP3,g3,Nat.le_refl _⟩
 case round =>
  obtain ⟨lv,acc,us,hspec,hb1w,hb0w,hrow,hlen,hps,hfr,hsz⟩:=hrel
  have hspecH:Hidden (Pz.imps gk acc us=some r4):=hspec
  have hb1H:Hidden (wr.heap[W2.heap.size]?=some (.cells #[ct n,lv,.slice none 0 0] 25 (0,0))):=hb1w
  have hb0H:Hidden (wr.heap[w.heap.size]?=some mo0):=hb0w
  have hrowH:Hidden (Row RT 9 1 wr W3.heap.size lv acc):=hrow
  have hpsH:Hidden (Ps wr q us 0 false):=hps
  have hlenH:Hidden (acc.length+gk≤g):=hlen
  clear hspec hb1w hb0w hps hlen hs4 hrow
  cases gk with
  | zero=>exact absurd hspecH (by simp [Hidden,Pz.imps])
  | succ gk =>
    cases us with
    | nil=>exact absurd hspecH (by simp [Hidden,Pz.imps])
    | cons t r =>
      have hs3:Pz.imps (gk+1) acc (t::r)=some r4:=hspecH
      rw [Pz.imps] at hs3
      by_cases hx:t.x=[105,109,112,111,114,116]
      ·rw [if_pos hx] at hs3
       have hs5:Hidden (Pz.bd _ _=some r4):=hs3
       have ki:=is_any q [105,109,112,111,114,116] t r 0 false true (by simp [Hidden,hx]) wr hpsH
       clear hspecH hs3 hx
       obtain ⟨aor,capr,rfl,hlenr,hcapr⟩:=Row.shape hrowH
       go_wp2_with fail
       go_at_call 65
       refine ki.mono ?_
       rintro e V1 ⟨rfl,f1'⟩
       have hp1:Hidden (Ps V1 q (t::r) 0 false):=Ps.keepN hpsH f1'
       have b1v:=f1'.heap hb1H (fun f=>f)
       obtain ⟨bc0,bc1,bc2,bz0,bz1,bz2⟩:=box3 b1v
       have b1vH:Hidden (V1.heap[W2.heap.size]?=some (.cells #[ct n,.slice aor acc.length capr,.slice none 0 0] 25 (0,0))):=b1v
       have hrow1:Hidden (Row RT 9 1 V1 W3.heap.size (.slice aor acc.length capr) acc):=Row.keep hrowH f1' (fun _ f=>f.elim)
       have sv1:=f1'.size
       have hqW:q<W3.heap.size:=by omega
       clear b1v
       go_wp2_with fail
       go_at_call 66
       obtain ⟨r5,e5,hs6⟩:=Pz.bd_some hs5
       refine (moreS_c q W3.heap.size (.slice aor acc.length capr) acc 16 (t::r) 0 false (acc.length == 16) r5 V1 (beqN _ 16) (by have h9:acc.length+(gk+1)≤g:=hlenH;omega) hrow1 hqW (by omega) (fun w1 hp=>imp1_c q (t::r) 0 _ r5 e5 w1 hp) hp1).mono ?_
       clear e5
       rcases r5 with ⟨x,ts5⟩ | ⟨p,c⟩
       rotate_left
       ·obtain rfl:r4 = .er p c:=hs6
        obtain rfl:rs = .er p c:=hs
        rintro e V2 ⟨rfl,f2'⟩
        unfold gP
        go_wp2_with fail
        exact ⟨rfl,rfl,(hfr.same (frq f1')).same f2'⟩
       rintro e V2 ⟨v5,rfl,hr5,hQ5,f2'⟩
       have hown:=Row.own hrow1
       have b12:Hidden (V2.heap[W2.heap.size]?=some (.cells #[ct n,.slice aor acc.length capr,.slice none 0 0] 25 (0,0))):=f2'.heap b1vH (fun hk=>by rcases hk with hk | hk;(omega);(have:=(hown _ hk).1;omega))
       have b02:Hidden (V2.heap[w.heap.size]?=some mo0):=f2'.heap (f1'.heap hb0H (fun f=>f)) (fun hk=>by rcases hk with hk | hk;(omega);(have:=(hown _ hk).1;omega))
       obtain ⟨ec0,ec1,ec2,ez0,ez1,ez2⟩:=box3 b12
       have sv2:=f2'.size
       have hQ5H:Hidden (Ps V2 q ts5 0 false):=hQ5
       have g5:Fr (fun k=>k=q) w V2:=(hfr.same (frq f1')).trans f2' (fun k hk hs=>by rcases hs with hs | hs;(exact hs);(have:=(hown _ hs).1;omega))
       clear hQ5 bc0 bc1 bc2 bz0 bz1 bz2
       obtain ⟨ao5,cap5,hv5,hl5,hc5⟩:=hr5.shape
       obtain rfl:v5 = .slice ao5 (acc.length+1) cap5:=by rw [hv5];simp
       clear hv5 hl5
       go_wp2_with fail
       have fp:=Fr.put V2 W2.heap.size 1 (.slice ao5 (acc.length+1) cap5)
       go_roundg gk
       case measure=>omega
       case rel=>exact ⟨_,acc++[x],ts5,hs6,heap_setCell_same _ _ 1 _ _ _ b12,fp.heap b02 (by omega),hr5.keep fp (fun k hk=>by subst hk;omega),by have h9:acc.length+(gk+1)≤g:=hlenH;simp only [List.length_append,List.length_cons,List.length_nil];omega,Ps.high hQ5H fp (fun k hk=>by subst hk;omega),g5.over fp (fun k hk=>by subst hk;omega),by simp;omega⟩
      ·rw [if_neg hx] at hs3
       obtain rfl:r4 = .ok acc (t::r):=(Option.some.inj hs3).symm
       have ki:=is_any q [105,109,112,111,114,116] t r 0 false false (by simpa [Hidden] using hx) wr hpsH
       clear hspecH hs3 hx
       obtain ⟨aoi,capi,rfl,hNi⟩:=Row.held hrowH
       have hNi2:Nw W3.heap.size wr (fun w=>SvL w aoi capi acc):=fun w1 hf=>svL_of (hNi w1 hf)
       clear hNi
       go_wp2_with fail
       go_at_call 65
       refine ki.mono ?_
       rintro e V1 ⟨rfl,f1'⟩
       have hp1:Hidden (Ps V1 q (t::r) 0 false):=Ps.keepN hpsH f1'
       have b11:Hidden (V1.heap[W2.heap.size]?=some (.cells #[ct n,.slice aoi acc.length capi,.slice none 0 0] 25 (0,0))):=f1'.heap hb1H (fun f=>f)
       have b01:Hidden (V1.heap[w.heap.size]?=some mo0):=f1'.heap hb0H (fun f=>f)
       have hNi3:=hNi2.step f1' (fun _ f=>f.elim)
       have gv1:=hfr.same (frq f1')
       have sv1:=f1'.size
       obtain ⟨r6,e6,hs7⟩:=Pz.bd_some hs
       have hs8:Hidden (Pz.dcls (Pz.E0 g) (Pz.B0 g) g g [] (t::r)=some r6):=e6
       have hlg:Hidden (acc.length+(gk+1)≤g):=hlenH
       clear e6 hrowH hpsH hb1H hb0H hlenH
       obtain ⟨Bq,hBq⟩:∃Bq,Bq=V1.heap.size:=⟨_,rfl⟩
       have hB1:W2.heap.size+1≤Bq:=by omega
       have hB2:q<Bq:=by omega
       go_wp2_with fail
       go_loopg [20] g (fun k _ wq=>∃(lv:Value) (da:List De) (us:List Tok),Pz.dcls (Pz.E0 g) (Pz.B0 g) g k da us=some r6∧wq.heap[W2.heap.size]?=some (.cells #[ct n,.slice aoi acc.length capi,lv] 25 (0,0))∧wq.heap[w.heap.size]?=some mo0∧Row RD 51 7 wq V1.heap.size lv da∧da.length+k≤g∧Ps wq q us 0 false∧Fr (fun k=>k=q) w wq∧V1.heap.size≤wq.heap.size∧Nz W3.heap.size W2.heap.size wq (fun w=>SvL w aoi capi acc)∧Fr (fun k=>k<W3.heap.size) V1 wq)
       case atStart=>exact ⟨.slice none 0 0,[],t::r,hs8,b11,b01,Row.nil _ _ _ _ _,by simp,hp1,gv1,Nat.le_refl _,hNi3.old (by omega) (Nat.le_refl _),Fr.refl _ _⟩
       case round =>
        obtain ⟨lv,da,us,hspec,hb1w,hb0w,hrow,hlen,hps,hfrq,hszq,hNzi,hFi⟩:=hrel
        have hspecH:Hidden (Pz.dcls (Pz.E0 g) (Pz.B0 g) g gk da us=some r6):=hspec
        have hb1H:Hidden (wr.heap[W2.heap.size]?=some (.cells #[ct n,.slice aoi acc.length capi,lv] 25 (0,0))):=hb1w
        have hb0H:Hidden (wr.heap[w.heap.size]?=some mo0):=hb0w
        have hrowH:Hidden (Row RD 51 7 wr V1.heap.size lv da):=hrow
        have hpsH:Hidden (Ps wr q us 0 false):=hps
        have hlenH:Hidden (da.length+gk≤g):=hlen
        clear hspec hb1w hb0w hps hlen hs8 hrow
        cases gk with
        | zero=>exact absurd hspecH (by simp [Hidden,Pz.dcls])
        | succ gk =>
          cases us with
          | nil=>exact absurd hspecH (by simp [Hidden,Pz.dcls])
          | cons t' r' =>
            cases r' with
            | nil =>
              have hs3:Pz.dcls (Pz.E0 g) (Pz.B0 g) g (gk+1) da [t']=some r6:=hspecH
              rw [Pz.dcls] at hs3
              obtain rfl:r6 = .ok da [t']:=(Option.some.inj hs3).symm
              obtain rfl:rs = .ok ⟨n,acc,da⟩ [t']:=(Option.some.inj (show some _=some rs from hs7)).symm
              have ki:=atEnd_any q [t'] 0 false true rfl wr hpsH
              clear hspecH hs3
              obtain ⟨aod,capd,rfl,hNd⟩:=Row.held hrowH
              have hNd2:Nw V1.heap.size wr (fun w=>DeL w aod capd da):=fun w1 hf=>deL_of (hNd w1 hf)
              obtain ⟨bc0,bc1,bc2,bz0,bz1,bz2⟩:=box3 hb1H
              obtain ⟨ac0,ac1,ac2,az0,az1,az2⟩:=box3 hb0H
              clear hNd hrowH
              go_wp2_with fail
              go_at_call 68
              refine ki.mono ?_
              rintro e V2 ⟨rfl,rfl⟩
              go_wp2_with fail
              have fs:=set3_fr V2 w.heap.size (ct n) (.slice aoi acc.length capi) (.slice aod da.length capd)
              exact post_one (results_cell_row rfl _ _ _ _ _ _ _ rfl (set_three hb0H _ _ _) Tryz.underlying25 rfl info_mo) rfl ⟨_,rfl,⟨aoi,capi,aod,capd,rfl,fun w2 hf=>⟨((hNzi.nw.step fs (fun k hk=>by subst hk;omega)).weak (by omega)) w2 hf,((hNd2.step fs (fun k hk=>by subst hk;omega)).weak (by omega)) w2 hf⟩⟩,Ps.high hpsH fs (fun k hk=>by subst hk;exact hq),hfrq.over fs (fun k hk=>by subst hk;exact Nat.le_refl _)⟩
            | cons u' r'' =>
              have hs3:Pz.dcls (Pz.E0 g) (Pz.B0 g) g (gk+1) da (t'::u'::r'')=some r6:=hspecH
              rw [Pz.dcls] at hs3
              have hs9:Hidden (Pz.bd _ _=some r6):=hs3
              have ki:=atEnd_any q (t'::u'::r'') 0 false false (by simp only [Hidden,beq_eq_false_iff_ne,List.length_cons];omega) wr hpsH
              clear hspecH hs3
              obtain ⟨aor,capr,rfl,hlenr,hcapr⟩:=Row.shape hrowH
              obtain ⟨bc0,bc1,bc2,bz0,bz1,bz2⟩:=box3 hb1H
              have hrowO:=Row.own hrowH
              go_wp2_with fail
              go_at_call 68
              refine ki.mono ?_
              rintro e V2 ⟨rfl,rfl⟩
              go_wp2_with fail
              go_at_call 69
              obtain ⟨r5,e5,hs6⟩:=Pz.bd_some hs9
              refine (moreD_c q V1.heap.size (.slice aor da.length capr) da 64 (t'::u'::r'') 0 false (da.length == 64) r5 V2 (beqN _ 64) (by have h9:da.length+(gk+1)≤g:=hlenH;omega) hrowH (by omega) (by omega) (fun w1 hp=>kD da _ r5 w1 e5 hp) hpsH).mono ?_
              clear e5
              rcases r5 with ⟨x,ts5⟩ | ⟨p,c⟩
              rotate_left
              ·obtain rfl:r6 = .er p c:=hs6
               obtain rfl:rs = .er p c:=hs7
               rintro e V3 ⟨rfl,f3'⟩
               unfold gP
               go_wp2_with fail
               exact ⟨rfl,rfl,hfrq.same f3'⟩
              rintro e V3 ⟨v5,rfl,hr5,hQ5,f3'⟩
              have b12:Hidden (V3.heap[W2.heap.size]?=some (.cells #[ct n,.slice aoi acc.length capi,.slice aor da.length capr] 25 (0,0))):=f3'.heap hb1H (fun hk=>by rcases hk with hk | hk;(omega);(have:=(hrowO _ hk).1;omega))
              have b02:Hidden (V3.heap[w.heap.size]?=some mo0):=f3'.heap hb0H (fun hk=>by rcases hk with hk | hk;(omega);(have:=(hrowO _ hk).1;omega))
              obtain ⟨ec0,ec1,ec2,ez0,ez1,ez2⟩:=box3 b12
              have sv3:=f3'.size
              have hQ5H:Hidden (Ps V3 q ts5 0 false):=hQ5
              have g5:Fr (fun k=>k=q) w V3:=hfrq.trans f3' (fun k hk hs=>by rcases hs with hs | hs;(exact hs);(have:=(hrowO _ hs).1;omega))
              clear hQ5 bc0 bc1 bc2 bz0 bz1 bz2
              obtain ⟨ao5,cap5,hv5,hl5,hc5⟩:=hr5.shape
              obtain rfl:v5 = .slice ao5 (da.length+1) cap5:=by rw [hv5];simp
              clear hv5 hl5
              go_wp2_with fail
              have fp:=Fr.put V3 W2.heap.size 2 (.slice ao5 (da.length+1) cap5)
              have fi3:Fr (fun k=>k<W3.heap.size) V1 V3:=hFi.trans f3' (fun k hk hs=>by rcases hs with hs | hs;(omega);(have:=(hrowO _ hs).1;omega))
              have fi4:=fi3.same (fp.mono (fun k _ hk=>by subst hk;omega))
              go_roundg gk
              case measure=>omega
              case rel=>exact ⟨_,da++[x],ts5,hs6,heap_setCell_same _ _ 2 _ _ _ b12,fp.heap b02 (by omega),hr5.keep fp (fun k hk=>by subst hk;omega),by have h9:da.length+(gk+1)≤g:=hlenH;simp only [List.length_append,List.length_cons,List.length_nil];omega,Ps.high hQ5H fp (fun k hk=>by subst hk;omega),g5.over fp (fun k hk=>by subst hk;omega),by simp;omega,(hNi3.step fi4 (fun k hk=>hk)).old (by omega) (Nat.le_refl _),fi4⟩
end
section
open Go.RowKit Lx Te
theorem np_c (B0 B:Nat) (w:World) (v:Value) (ts:List Tok) (n:Nat) (hn:ts.length≤1024) (hB0:B0≤B) (hB:B≤w.heap.size) (hT:Tq B0 w) (hr:Tr w B 42 v ts) :
 Calls Tryz.prog 61 #[v,ci (n:Int)] w fun e w'=>∃q,e = .returned (pp q)∧Ps w' q (ts++[Pz.endT n]) 0 false∧w.heap.size≤q∧Fr (fun k=>v.ownBlock=some k) w w':=by
 obtain ⟨ao,cap,rfl⟩:=hr.len
 have hrH:Hidden (Tr w B 42 (.slice ao ts.length cap) ts):=hr
 clear hr
 go_enter Tryz.func61,Tryz.ntmps61
 go_wp2_with (at_builtin
              go_must (refine wpList_tok rfl _ _ 35 42 Tryz.underlying35 info_tok3 rfl B (.slice ao ts.length cap) ts (Pz.endT n) w.heap.size 1 rfl ?c0 rfl ?c1 ?c2 ?c3 ?_)
              case c0=>go_must (exact Tr.keepN hrH (Fr.alloc _ _ _))
              case c1=>go_must (exact fun i u hu=>(cell_of_row _ _ i _ _ _ (alloc_new _ _)).trans (tok_arr (Pz.endT n) i u hu))
              case c2=>go_must (omega)
              case c3=>go_must (simp;omega)
              go_must (intro v2 W2 hrow2 f2)
              go_must (obtain ⟨g2,cap2,rfl,hc1,hc2,hg1,hg2,hcells⟩:=hrow2.out (by simp))
              have hcellsH:Hidden (∀(i:Nat) (t:Tok),(ts++[Pz.endT n])[i]?=some t→∀(j:Nat) (x:Value),(tokC t)[j]?=some x→W2.cell? ⟨g2,i*5+j,none⟩=some x):=hcells
              clear hcells)
 go_ret
 have fa:=Fr.alloc (fun _=>False) w (.cells #[.int .i64 0,.string ⟨#[]⟩,.int .i64 0,.int .u64 0,.int .i64 (n:Int)] 42)
 have hl:=Tr.low hrH
 have s2:=f2.size
 simp only [World.size_alloc] at s2
 have hfull:Fr (fun k=>Value.ownBlock (.slice ao ts.length cap)=some k) w W2:=(fa.mono (fun _ _ f=>f.elim)).same f2
 have fb:=Fr.alloc (fun _=>False) W2 (psO (.slice (some ⟨g2,0,none⟩) (ts.length+1) cap2) 0 false)
 have hTq:Tq W2.heap.size (W2.alloc (psO (.slice (some ⟨g2,0,none⟩) (ts.length+1) cap2) 0 false)):=fun w' hf'=>((hT.step hfull (fun k hk=>by have:=hl k hk;omega)).step fb (fun _ f=>f.elim)) w' (hf'.mono (fun k _ hk=>by omega))
 refine ⟨W2.heap.size,rfl,⟨hTq,g2,0,cap2,?_,hg2,hc1,hc2,?_⟩,by omega,hfull.same (Fr.alloc _ _ _)⟩
 ·have:=alloc_new W2 (psO (.slice (some ⟨g2,0,none⟩) (ts.length+1) cap2) 0 false)
  rw [List.length_append]
  exact this
 ·intro i t ht j x hx
  have h1:W2.cell? ⟨g2,i*5+j,none⟩=some x:=hcellsH i t ht j x hx
  rw [Nat.zero_add]
  exact fb.cellN h1
def gvP (p:Nat) (c:Int) (done:Bool):FrameMode:=.panicking [{ v:=.iface 110 (.agg #[.int .i64 (p:Int),.int .i64 c]),recovered:=done }]
theorem assert_faultP (v:Value) (w:World):(Instr.typeAssert (.iface 110 v) 20 110 true).run Tryz.prog w = .ok (.tuple #[v,.bool true]) w:=by kernel_rfl
theorem catchM (b1 b2:Nat) (hne:b1≠b2) (p:Nat) (c:Int) (w:World) (hb1:w.heap[b1]?=some (.cells #[ci 0] 3 (0,0))) (hb2:w.heap[b2]?=some (.cells #[ci 0] 26 (0,0))) :
 CallsD Tryz.prog 60 #[.pointer (some ⟨b1,0,none⟩),.pointer (some ⟨b2,0,none⟩)] (gvP p c false) w fun e u' w' =>
  e = .returned (.tuple #[])∧u'=gvP p c true∧w'.heap[b1]?=some (.cells #[ci (p:Int)] 3 (0,0))∧w'.heap[b2]?=some (.cells #[ci c] 26 (0,0))∧Fr (fun k=>k=b1∨k=b2) w w':=by
 have hta:=assert_faultP
 refine callsD_of_wpS Tryz.func60 rfl fun c₀ cs hu=>?_
 have e0:(#[Value.pointer (some ⟨b1,0,none⟩),Value.pointer (some ⟨b2,0,none⟩)]++Array.replicate (Tryz.f60.ntmps - (#[Value.pointer (some ⟨b1,0,none⟩),Value.pointer (some ⟨b2,0,none⟩)]:Array Value).size) undef)=#[Value.pointer (some ⟨b1,0,none⟩),Value.pointer (some ⟨b2,0,none⟩),undef,undef,undef,undef,undef,undef,undef,undef,undef,undef,undef,undef,undef]:=rfl
 rw [e0]
 clear e0
 apply wpS_seq
 apply wpS_region
 simp [wpOpsS,go_sem,recoverD,hu,Tryz.ntmps60,Exit.thenS,gvP]
 refine wpS_of_wp ?_
 have hl1:=lt_of_heap hb1
 have hl2:=lt_of_heap hb2
 have c1:w.cell? ⟨b1,0,none⟩=some (ci 0):=cell_of_row _ _ 0 _ _ _ hb1
 have z1:=frozen_row hb1 0
 have c2:w.cell? ⟨b2,0,none⟩=some (ci 0):=cell_of_row _ _ 0 _ _ _ hb2
 have z2:=frozen_row hb2 0
 have fp:=Fr.put w b1 0 (.int .i64 (p:Int))
 have fq:=Fr.put (w.setCell ⟨b1,0,none⟩ (.int .i64 (p:Int))) b2 0 (.int .i64 c)
 have hB1:(w.setCell ⟨b1,0,none⟩ (.int .i64 (p:Int))).heap[b1]?=some (.cells #[ci (p:Int)] 3 (0,0)):=heap_setCell_same _ _ 0 _ _ _ hb1
 have hB2:=fp.heap hb2 (fun e=>hne e.symm)
 have fa:=(Fr.alloc (fun _=>False) ((w.setCell ⟨b1,0,none⟩ (.int .i64 (p:Int))).setCell ⟨b2,0,none⟩ (.int .i64 c)) (.cells #[.int .i64 (p:Int),.int .i64 c] 110)).same (Fr.drew (fun _=>False) _)
 have hC1H:Hidden _:=fa.heap (fq.heap hB1 hne) (fun f=>f)
 have hC2:((w.setCell ⟨b1,0,none⟩ (.int .i64 (p:Int))).setCell ⟨b2,0,none⟩ (.int .i64 c)).heap[b2]?=some (.cells #[ci c] 26 (0,0)):=heap_setCell_same _ _ 0 _ _ _ hB2
 have hC2H:Hidden _:=fa.heap hC2 (fun f=>f)
 have hfr:Fr (fun k=>k=b1∨k=b2) w _:=((fp.mono (fun _ _ hk=>Or.inl hk)).same (fq.mono (fun _ _ hk=>Or.inr hk))).same (fa.mono (fun _ _ f=>f.elim))
 clear hb1 hb2 hB1 hB2 hC2
 go_wp2_with fail
 go_region
 all_goals go_wp2_with fail
 all_goals exact ⟨rfl,_,rfl,_,results_none rfl _ _ _,rfl,rfl,hC1H,hC2H,hfr⟩
theorem catchX (b1 b2:Nat) (hne:b1≠b2) (p:Nat) (c:Int) (w:World) (hb1:w.heap[b1]?=some (.cells #[ci 0] 3 (0,0))) (hb2:w.heap[b2]?=some (.cells #[ci 0] 26 (0,0))) :
 CallsD Tryz.prog 107 #[.pointer (some ⟨b1,0,none⟩),.pointer (some ⟨b2,0,none⟩)] (gvP p c false) w fun e u' w' =>
  e = .returned (.tuple #[])∧u'=gvP p c true∧w'.heap[b1]?=some (.cells #[ci (p:Int)] 3 (0,0))∧w'.heap[b2]?=some (.cells #[ci c] 26 (0,0))∧Fr (fun k=>k=b1∨k=b2) w w':=by
 have hta:=assert_faultP
 refine callsD_of_wpS Tryz.func107 rfl fun c₀ cs hu=>?_
 have e0:(#[Value.pointer (some ⟨b1,0,none⟩),Value.pointer (some ⟨b2,0,none⟩)]++Array.replicate (Tryz.f107.ntmps - (#[Value.pointer (some ⟨b1,0,none⟩),Value.pointer (some ⟨b2,0,none⟩)]:Array Value).size) undef)=#[Value.pointer (some ⟨b1,0,none⟩),Value.pointer (some ⟨b2,0,none⟩),undef,undef,undef,undef,undef,undef,undef,undef,undef,undef,undef,undef,undef]:=rfl
 rw [e0]
 clear e0
 apply wpS_seq
 apply wpS_region
 simp [wpOpsS,go_sem,recoverD,hu,Tryz.ntmps107,Exit.thenS,gvP]
 refine wpS_of_wp ?_
 have hl1:=lt_of_heap hb1
 have hl2:=lt_of_heap hb2
 have c1:w.cell? ⟨b1,0,none⟩=some (ci 0):=cell_of_row _ _ 0 _ _ _ hb1
 have z1:=frozen_row hb1 0
 have c2:w.cell? ⟨b2,0,none⟩=some (ci 0):=cell_of_row _ _ 0 _ _ _ hb2
 have z2:=frozen_row hb2 0
 have fp:=Fr.put w b1 0 (.int .i64 (p:Int))
 have fq:=Fr.put (w.setCell ⟨b1,0,none⟩ (.int .i64 (p:Int))) b2 0 (.int .i64 c)
 have hB1:(w.setCell ⟨b1,0,none⟩ (.int .i64 (p:Int))).heap[b1]?=some (.cells #[ci (p:Int)] 3 (0,0)):=heap_setCell_same _ _ 0 _ _ _ hb1
 have hB2:=fp.heap hb2 (fun e=>hne e.symm)
 have fa:=(Fr.alloc (fun _=>False) ((w.setCell ⟨b1,0,none⟩ (.int .i64 (p:Int))).setCell ⟨b2,0,none⟩ (.int .i64 c)) (.cells #[.int .i64 (p:Int),.int .i64 c] 110)).same (Fr.drew (fun _=>False) _)
 have hC1H:Hidden _:=fa.heap (fq.heap hB1 hne) (fun f=>f)
 have hC2:((w.setCell ⟨b1,0,none⟩ (.int .i64 (p:Int))).setCell ⟨b2,0,none⟩ (.int .i64 c)).heap[b2]?=some (.cells #[ci c] 26 (0,0)):=heap_setCell_same _ _ 0 _ _ _ hB2
 have hC2H:Hidden _:=fa.heap hC2 (fun f=>f)
 have hfr:Fr (fun k=>k=b1∨k=b2) w _:=((fp.mono (fun _ _ hk=>Or.inl hk)).same (fq.mono (fun _ _ hk=>Or.inr hk))).same (fa.mono (fun _ _ f=>f.elim))
 clear hb1 hb2 hB1 hB2 hC2
 go_wp2_with fail
 go_region
 all_goals go_wp2_with fail
 all_goals exact ⟨rfl,_,rfl,_,results_none rfl _ _ _,rfl,rfl,hC1H,hC2H,hfr⟩
theorem idleM (b1 b2:Nat) (w:World) :
 CallsD Tryz.prog 60 #[.pointer (some ⟨b1,0,none⟩),.pointer (some ⟨b2,0,none⟩)] .returning w fun e u' w'=>e = .returned (.tuple #[])∧u' = .returning∧w'=w:=by
 refine callsD_of_wpS Tryz.func60 rfl fun c₀ cs hu=>?_
 have e0:(#[Value.pointer (some ⟨b1,0,none⟩),Value.pointer (some ⟨b2,0,none⟩)]++Array.replicate (Tryz.f60.ntmps - (#[Value.pointer (some ⟨b1,0,none⟩),Value.pointer (some ⟨b2,0,none⟩)]:Array Value).size) undef)=#[Value.pointer (some ⟨b1,0,none⟩),Value.pointer (some ⟨b2,0,none⟩),undef,undef,undef,undef,undef,undef,undef,undef,undef,undef,undef,undef,undef]:=rfl
 rw [e0]
 clear e0
 apply wpS_seq
 apply wpS_region
 simp [wpOpsS,go_sem,recoverD,hu,Tryz.ntmps60,Exit.thenS]
 refine wpS_of_wp ?_
 go_wp2
 refine ⟨rfl,.returning,?_,_,results_none rfl _ _ _,rfl,rfl,rfl⟩
 rw [←hu]
theorem idleX (b1 b2:Nat) (w:World) :
 CallsD Tryz.prog 107 #[.pointer (some ⟨b1,0,none⟩),.pointer (some ⟨b2,0,none⟩)] .returning w fun e u' w'=>e = .returned (.tuple #[])∧u' = .returning∧w'=w:=by
 refine callsD_of_wpS Tryz.func107 rfl fun c₀ cs hu=>?_
 have e0:(#[Value.pointer (some ⟨b1,0,none⟩),Value.pointer (some ⟨b2,0,none⟩)]++Array.replicate (Tryz.f107.ntmps - (#[Value.pointer (some ⟨b1,0,none⟩),Value.pointer (some ⟨b2,0,none⟩)]:Array Value).size) undef)=#[Value.pointer (some ⟨b1,0,none⟩),Value.pointer (some ⟨b2,0,none⟩),undef,undef,undef,undef,undef,undef,undef,undef,undef,undef,undef,undef,undef]:=rfl
 rw [e0]
 clear e0
 apply wpS_seq
 apply wpS_region
 simp [wpOpsS,go_sem,recoverD,hu,Tryz.ntmps107,Exit.thenS]
 refine wpS_of_wp ?_
 go_wp2
 refine ⟨rfl,.returning,?_,_,results_none rfl _ _ _,rfl,rfl,rfl⟩
 rw [←hu]
theorem results_three {fn:Func} {p0 p1 p2:Tmp} {t0 t1 t2:TypeId} (h:fn.results=#[.cell p0 t0,.cell p1 t1,.cell p2 t2]) (tmps:Array Value) (w:World) (a0 a1 a2:Addr) (v0 v1 v2:Value)
 (h0:tmps.getD p0 undef = .pointer (some a0)) (h1:tmps.getD p1 undef = .pointer (some a1)) (h2:tmps.getD p2 undef = .pointer (some a2))
 (l0:(loadVar t0 a0).run Tryz.prog w = .ok v0 w) (l1:(loadVar t1 a1).run Tryz.prog w = .ok v1 w) (l2:(loadVar t2 a2).run Tryz.prog w = .ok v2 w):(results fn tmps).run Tryz.prog w = .ok (.tuple #[v0,v1,v2]) w:=by
 have h0':tmps[p0]?.getD undef = .pointer (some a0):=by simpa using h0
 have h1':tmps[p1]?.getD undef = .pointer (some a1):=by simpa using h1
 have h2':tmps[p2]?.getD undef = .pointer (some a2):=by simpa using h2
 simp [results,h,h0',h1',h2',asAddr,l0,l1,l2,Sem.run_bind,Result.andThen]
theorem load_int (w:World) (b:Nat) (z:Int) (h:w.heap[b]?=some (.cells #[ci z] 3 (0,0))):(loadVar 3 ⟨b,0,none⟩).run Tryz.prog w = .ok (ci z) w:=by
 have hc:w.cell? ⟨b,0,none⟩=some (ci z):=cell_of_row _ _ 0 _ _ _ h
 simp [go_sem,hc]
theorem load_errno (w:World) (b:Nat) (z:Int) (h:w.heap[b]?=some (.cells #[ci z] 26 (0,0))):(loadVar 26 ⟨b,0,none⟩).run Tryz.prog w = .ok (ci z) w:=by
 have hc:w.cell? ⟨b,0,none⟩=some (ci z):=cell_of_row _ _ 0 _ _ _ h
 simp [go_sem,hc]
end
end Go.Proofs.YteijjaabngkbjaaGreatDoor
