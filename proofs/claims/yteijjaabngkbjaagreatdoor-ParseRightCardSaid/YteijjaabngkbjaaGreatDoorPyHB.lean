/- PyA PyB PyC PyD PyE PyF PyG PyH -/
import Derived.Test.YteijjaabngkbjaaGreatDoorTrTAll
import Derived.Test.YteijjaabngkbjaaGreatDoorPsWB
import Derived.Test.YteijjaabngkbjaaGreatDoorPwDB
import Derived.Deep.RegionHeld3
set_option maxRecDepth 100000
set_option maxHeartbeats 40000000
set_option linter.unusedVariables false
set_option linter.unusedSimpArgs false
set_option linter.unusedSectionVars false
namespace Go.Proofs.YteijjaabngkbjaaGreatDoor
section
open Go.RowKit Te
theorem type_is (t:Int) (ht:t=0∨t=1∨t=2∨t=3) (w:World) :
 Calls Tryz.prog 80 #[ci t] w fun e w'=>e = .returned (ct (tyT t))∧w'=w:=by
 rcases ht with rfl | rfl | rfl | rfl
 all_goals
  go_enter Tryz.func80,Tryz.ntmps80
  go_wp2
  go_ret
  exact ⟨rfl,rfl⟩
end
section
open Go.RowKit Te
theorem line_new2 (n:Nat) (l:List Bs) (acc T:Bs) (w0 w:World) (B b:Nat) (hw:PW w0 B b acc w) (hn:n≤1000000) (hl9:l.length≤1000000) (hT:acc++Te.pad n++l.flatten++[10]=T) (hl:T.length≤140737488355328) :
 Calls Tryz.prog 37 #[bp b,ci (n:Int),.slice (some ⟨w.heap.size,0,none⟩) l.length l.length] (w.alloc (.cells (l.map ct).toArray 9)) fun e w'=>e = .returned (.tuple #[])∧PWrote w0 B b T w w' :=
 (line_w n l w.heap.size acc T w0 _ B b (alloc_new _ _) (ne_pbld hw.bld) hn hl9 (hw.quiet (Fr.alloc _ _ _)) hT hl).mono fun e w' h=>⟨h.1,h.2.1,bs_then (Fr.alloc _ _ _) h.2.2⟩
theorem returns_none (n:Nat) (hn:n≤1000000) (ao:Option Addr) (cap:Nat) (acc T:Bs) (w0 w:World) (B b:Nat) (hw:PW w0 B b acc w) (hT:Hidden (acc++(pad n++[114,101,116,117,114,110,59,10])=T)) (hl:T.length≤140737488355328) :
 Calls Tryz.prog 171 #[bp b,.slice ao 0 cap,ci (n:Int)] w fun e w'=>e = .returned (.tuple #[])∧PWrote w0 B b T w w':=by
 have k:=line_new2 n [[114,101,116,117,114,110,59]] acc T w0 w B b hw hn (by decide) (by rw [←(show _=T from hT)];simp) hl
 go_enter Tryz.func171,Tryz.ntmps171
 go_wp2_with fail
 go_at_call 37
 refine k.mono ?_
 rintro e w1 ⟨rfl,p1⟩
 go_wp2_with fail
 refine bodyPost_ret (results_none rfl _ _ _) rfl ?_
 exact ⟨rfl,p1⟩
theorem returns_one (n:Nat) (hn:n≤1000000) (h:EH) (k:Exs) (b0 off cap:Nat) (ao1:Option Addr) (cap1:Nat) (acc T:Bs) (w0 w:World) (B b:Nat) (ht:F.Tab w) (ho:OkE h) (hx:OkX k) (hs:ShE h k.len) (hsl:ShL k)
 (hk:ExL w ao1 cap1 k) (h0:w.cell? ⟨b0,off,none⟩=some (ci h.kind)) (h1:w.cell? ⟨b0,off+1,none⟩=some (ci h.op)) (h2:w.cell? ⟨b0,off+2,none⟩=some (ct h.mod)) (h3:w.cell? ⟨b0,off+3,none⟩=some (ct h.name)) (h4:w.cell? ⟨b0,off+4,none⟩=some (ci h.vt)) (h5:w.cell? ⟨b0,off+5,none⟩=some (.int .u64 h.vb)) (h6:w.cell? ⟨b0,off+6,none⟩=some (.slice ao1 k.len cap1))
 (hw:PW w0 B b acc w) (hT:Hidden (acc++(pad n++([114,101,116,117,114,110,32]++txA txS h k 1++[59,10]))=T)) (hl:T.length≤140737488355328) :
 Calls Tryz.prog 171 #[bp b,.slice (some ⟨b0,off,none⟩) 1 cap,ci (n:Int)] w fun e w'=>e = .returned (.tuple #[])∧PWrote w0 B b T w w':=by
 have hlen:(txA txS h k 1).length≤140737488355328:=by
  have:=congrArg List.length (show _=T from hT)
  simp only [List.length_append] at this
  omega
 have ke:=exprText_any h k (exV h (.slice ao1 k.len cap1)) w ho hx hs hsl ⟨ao1,cap1,rfl,hk⟩ ht hlen
 generalize txA txS h k 1=E at ke hT hlen
 go_enter Tryz.func171,Tryz.ntmps171
 go_wp2_with fail
 go_at_call 48
 refine ke.mono ?_
 rintro e w1 ⟨rfl,f1⟩
 have kl:=line_new2 n [[114,101,116,117,114,110,32],E,[59]] acc T w0 w1 B b (hw.quiet f1) hn (by simp) (by rw [←(show _=T from hT)];simp) hl
 go_wp2_with fail
 go_at_call 37
 refine kl.mono ?_
 rintro e w2 ⟨rfl,p2,g2⟩
 go_wp2_with fail
 go_end0
 exact ⟨rfl,p2,bs_then f1 g2⟩
end
section
open Go.RowKit Te
abbrev stO (k:Int) (name:Bs) (ev bv lv:Value):Obj:=.cells #[ci k,ct name,ev,bv,lv] 91 (0,0)
def BlkW (k:Sts) (n:Nat):Prop:=∀(z:Int),z=(n:Int)→∀(ao:Option Addr) (cap:Nat) (w0 w:World) (B b:Nat) (acc T:Bs),StL w0 ao cap k→F.Tab w0→PW w0 B b acc w→Hidden (acc++stT txS k n=T)→T.length≤140737488355328 →
 Calls Tryz.prog 82 #[bp b,.slice ao k.len cap,ci z] w fun e w'=>e = .returned (.tuple #[])∧PWrote w0 B b T w w'
theorem stmt_6 (n:Nat) (hn:n≤1000000) (name:Bs) (acc T:Bs) (w0 w:World) (B b:Nat) (ht:F.Tab w0) (hw:PW w0 B b acc w) (ao2 ao3:Option Addr) (n2 n3 cap2 cap3:Nat) (x:EH) (kx:Exs) (b0 off cap1:Nat) (aok:Option Addr) (capk:Nat) (ho:OkE x) (hx:OkX kx) (hs:ShE x kx.len) (hsl:ShL kx)
 (hk:ExL w0 aok capk kx) (h0:w0.cell? ⟨b0,off,none⟩=some (ci x.kind)) (h1:w0.cell? ⟨b0,off+1,none⟩=some (ci x.op)) (h2:w0.cell? ⟨b0,off+2,none⟩=some (ct x.mod)) (h3:w0.cell? ⟨b0,off+3,none⟩=some (ct x.name)) (h4:w0.cell? ⟨b0,off+4,none⟩=some (ci x.vt)) (h5:w0.cell? ⟨b0,off+5,none⟩=some (.int .u64 x.vb)) (h6:w0.cell? ⟨b0,off+6,none⟩=some (.slice aok kx.len capk))
 (hT:Hidden (acc++(pad n++([115,104,111,119,32]++txA txS x kx 1++[59,10]))=T)) (hl:T.length≤140737488355328) :
 Calls Tryz.prog 129 #[bp b,stV ⟨6,name⟩ (.slice (some ⟨b0,off,none⟩) 1 cap1) (.slice ao2 n2 cap2) (.slice ao3 n3 cap3),ci (n:Int)] w fun e w'=>e = .returned (.tuple #[])∧PWrote w0 B b T w w':=by
 have f0:=Fr.alloc (fun _=>False) w (stO 6 name (.slice (some ⟨b0,off,none⟩) 1 cap1) (.slice ao2 n2 cap2) (.slice ao3 n3 cap3))
 have hbx:Hidden ((w.alloc (stO 6 name (.slice (some ⟨b0,off,none⟩) 1 cap1) (.slice ao2 n2 cap2) (.slice ao3 n3 cap3))).heap[w.heap.size]?=some (stO 6 name (.slice (some ⟨b0,off,none⟩) 1 cap1) (.slice ao2 n2 cap2) (.slice ao3 n3 cap3))):=alloc_new _ _
 have g0:=hw.fr.same f0
 have hne:=ne_pbld hw.bld
 have d0:=g0.cellN h0
 have d1:=g0.cellN h1
 have d2:=g0.cellN h2
 have d3:=g0.cellN h3
 have d4:=g0.cellN h4
 have d5:=g0.cellN h5
 have d6:=g0.cellN h6
 have hlen:(txA txS x kx 1).length≤140737488355328:=by
  have:=congrArg List.length (show _=T from hT)
  simp only [List.length_append] at this
  omega
 have ke:=exprText_any x kx (exV x (.slice aok kx.len capk)) (w.alloc (stO 6 name (.slice (some ⟨b0,off,none⟩) 1 cap1) (.slice ao2 n2 cap2) (.slice ao3 n3 cap3))) ho hx hs hsl ⟨aok,capk,rfl,hk.keep g0⟩ (tab_fr ht g0) hlen
 generalize txA txS x kx 1=E at ke hT hlen
 go_enter Tryz.func129,Tryz.ntmps129
 go_wp2_with fail
 go_at_call 48
 refine ke.mono ?_
 rintro e w1 ⟨rfl,f1⟩
 have kl:=line_new2 n [[115,104,111,119,32],E,[59]] acc T w0 w1 B b (hw.quiet (f0.same f1)) hn (by simp) (by rw [←(show _=T from hT)];simp) hl
 go_wp2_with fail
 go_at_call 37
 refine kl.mono ?_
 rintro e w2 ⟨rfl,p2,g2⟩
 go_wp2_with fail
 go_end0
 exact ⟨rfl,p2,bs_then (f0.same f1) g2⟩
theorem stmt_7 (n:Nat) (hn:n≤1000000) (name:Bs) (acc T:Bs) (w0 w:World) (B b:Nat) (ht:F.Tab w0) (hw:PW w0 B b acc w) (ao2 ao3:Option Addr) (n2 n3 cap2 cap3:Nat) (x:EH) (kx:Exs) (b0 off cap1:Nat) (aok:Option Addr) (capk:Nat) (ho:OkE x) (hx:OkX kx) (hs:ShE x kx.len) (hsl:ShL kx)
 (hk:ExL w0 aok capk kx) (h0:w0.cell? ⟨b0,off,none⟩=some (ci x.kind)) (h1:w0.cell? ⟨b0,off+1,none⟩=some (ci x.op)) (h2:w0.cell? ⟨b0,off+2,none⟩=some (ct x.mod)) (h3:w0.cell? ⟨b0,off+3,none⟩=some (ct x.name)) (h4:w0.cell? ⟨b0,off+4,none⟩=some (ci x.vt)) (h5:w0.cell? ⟨b0,off+5,none⟩=some (.int .u64 x.vb)) (h6:w0.cell? ⟨b0,off+6,none⟩=some (.slice aok kx.len capk))
 (hT:Hidden (acc++(pad n++([102,97,105,108,32]++txA txS x kx 1++[59,10]))=T)) (hl:T.length≤140737488355328) :
 Calls Tryz.prog 129 #[bp b,stV ⟨7,name⟩ (.slice (some ⟨b0,off,none⟩) 1 cap1) (.slice ao2 n2 cap2) (.slice ao3 n3 cap3),ci (n:Int)] w fun e w'=>e = .returned (.tuple #[])∧PWrote w0 B b T w w':=by
 have f0:=Fr.alloc (fun _=>False) w (stO 7 name (.slice (some ⟨b0,off,none⟩) 1 cap1) (.slice ao2 n2 cap2) (.slice ao3 n3 cap3))
 have hbx:Hidden ((w.alloc (stO 7 name (.slice (some ⟨b0,off,none⟩) 1 cap1) (.slice ao2 n2 cap2) (.slice ao3 n3 cap3))).heap[w.heap.size]?=some (stO 7 name (.slice (some ⟨b0,off,none⟩) 1 cap1) (.slice ao2 n2 cap2) (.slice ao3 n3 cap3))):=alloc_new _ _
 have g0:=hw.fr.same f0
 have hne:=ne_pbld hw.bld
 have d0:=g0.cellN h0
 have d1:=g0.cellN h1
 have d2:=g0.cellN h2
 have d3:=g0.cellN h3
 have d4:=g0.cellN h4
 have d5:=g0.cellN h5
 have d6:=g0.cellN h6
 have hlen:(txA txS x kx 1).length≤140737488355328:=by
  have:=congrArg List.length (show _=T from hT)
  simp only [List.length_append] at this
  omega
 have ke:=exprText_any x kx (exV x (.slice aok kx.len capk)) (w.alloc (stO 7 name (.slice (some ⟨b0,off,none⟩) 1 cap1) (.slice ao2 n2 cap2) (.slice ao3 n3 cap3))) ho hx hs hsl ⟨aok,capk,rfl,hk.keep g0⟩ (tab_fr ht g0) hlen
 generalize txA txS x kx 1=E at ke hT hlen
 go_enter Tryz.func129,Tryz.ntmps129
 go_wp2_with fail
 go_at_call 48
 refine ke.mono ?_
 rintro e w1 ⟨rfl,f1⟩
 have kl:=line_new2 n [[102,97,105,108,32],E,[59]] acc T w0 w1 B b (hw.quiet (f0.same f1)) hn (by simp) (by rw [←(show _=T from hT)];simp) hl
 go_wp2_with fail
 go_at_call 37
 refine kl.mono ?_
 rintro e w2 ⟨rfl,p2,g2⟩
 go_wp2_with fail
 go_end0
 exact ⟨rfl,p2,bs_then (f0.same f1) g2⟩
theorem stmt_9 (n:Nat) (hn:n≤1000000) (name:Bs) (acc T:Bs) (w0 w:World) (B b:Nat) (ht:F.Tab w0) (hw:PW w0 B b acc w) (ao2 ao3:Option Addr) (n2 n3 cap2 cap3:Nat) (x:EH) (kx:Exs) (b0 off cap1:Nat) (aok:Option Addr) (capk:Nat) (ho:OkE x) (hx:OkX kx) (hs:ShE x kx.len) (hsl:ShL kx)
 (hk:ExL w0 aok capk kx) (h0:w0.cell? ⟨b0,off,none⟩=some (ci x.kind)) (h1:w0.cell? ⟨b0,off+1,none⟩=some (ci x.op)) (h2:w0.cell? ⟨b0,off+2,none⟩=some (ct x.mod)) (h3:w0.cell? ⟨b0,off+3,none⟩=some (ct x.name)) (h4:w0.cell? ⟨b0,off+4,none⟩=some (ci x.vt)) (h5:w0.cell? ⟨b0,off+5,none⟩=some (.int .u64 x.vb)) (h6:w0.cell? ⟨b0,off+6,none⟩=some (.slice aok kx.len capk))
 (hT:Hidden (acc++(pad n++(txA txS x kx 1++[59,10]))=T)) (hl:T.length≤140737488355328) :
 Calls Tryz.prog 129 #[bp b,stV ⟨9,name⟩ (.slice (some ⟨b0,off,none⟩) 1 cap1) (.slice ao2 n2 cap2) (.slice ao3 n3 cap3),ci (n:Int)] w fun e w'=>e = .returned (.tuple #[])∧PWrote w0 B b T w w':=by
 have f0:=Fr.alloc (fun _=>False) w (stO 9 name (.slice (some ⟨b0,off,none⟩) 1 cap1) (.slice ao2 n2 cap2) (.slice ao3 n3 cap3))
 have hbx:Hidden ((w.alloc (stO 9 name (.slice (some ⟨b0,off,none⟩) 1 cap1) (.slice ao2 n2 cap2) (.slice ao3 n3 cap3))).heap[w.heap.size]?=some (stO 9 name (.slice (some ⟨b0,off,none⟩) 1 cap1) (.slice ao2 n2 cap2) (.slice ao3 n3 cap3))):=alloc_new _ _
 have g0:=hw.fr.same f0
 have hne:=ne_pbld hw.bld
 have d0:=g0.cellN h0
 have d1:=g0.cellN h1
 have d2:=g0.cellN h2
 have d3:=g0.cellN h3
 have d4:=g0.cellN h4
 have d5:=g0.cellN h5
 have d6:=g0.cellN h6
 have hlen:(txA txS x kx 1).length≤140737488355328:=by
  have:=congrArg List.length (show _=T from hT)
  simp only [List.length_append] at this
  omega
 have ke:=exprText_any x kx (exV x (.slice aok kx.len capk)) (w.alloc (stO 9 name (.slice (some ⟨b0,off,none⟩) 1 cap1) (.slice ao2 n2 cap2) (.slice ao3 n3 cap3))) ho hx hs hsl ⟨aok,capk,rfl,hk.keep g0⟩ (tab_fr ht g0) hlen
 generalize txA txS x kx 1=E at ke hT hlen
 go_enter Tryz.func129,Tryz.ntmps129
 go_wp2_with fail
 go_at_call 48
 refine ke.mono ?_
 rintro e w1 ⟨rfl,f1⟩
 have kl:=line_new2 n [E,[59]] acc T w0 w1 B b (hw.quiet (f0.same f1)) hn (by simp) (by rw [←(show _=T from hT)];simp) hl
 go_wp2_with fail
 go_at_call 37
 refine kl.mono ?_
 rintro e w2 ⟨rfl,p2,g2⟩
 go_wp2_with fail
 go_end0
 exact ⟨rfl,p2,bs_then (f0.same f1) g2⟩
theorem stmt_1 (n:Nat) (hn:n≤1000000) (name:Bs) (acc T:Bs) (w0 w:World) (B b:Nat) (ht:F.Tab w0) (hw:PW w0 B b acc w) (ao2 ao3:Option Addr) (n2 n3 cap2 cap3:Nat) (x:EH) (kx:Exs) (b0 off cap1:Nat) (aok:Option Addr) (capk:Nat) (ho:OkE x) (hx:OkX kx) (hs:ShE x kx.len) (hsl:ShL kx)
 (hk:ExL w0 aok capk kx) (h0:w0.cell? ⟨b0,off,none⟩=some (ci x.kind)) (h1:w0.cell? ⟨b0,off+1,none⟩=some (ci x.op)) (h2:w0.cell? ⟨b0,off+2,none⟩=some (ct x.mod)) (h3:w0.cell? ⟨b0,off+3,none⟩=some (ct x.name)) (h4:w0.cell? ⟨b0,off+4,none⟩=some (ci x.vt)) (h5:w0.cell? ⟨b0,off+5,none⟩=some (.int .u64 x.vb)) (h6:w0.cell? ⟨b0,off+6,none⟩=some (.slice aok kx.len capk))
 (hT:Hidden (acc++(pad n++([108,101,116,32]++name++[32,61,32]++txA txS x kx 1++[59,10]))=T)) (hl:T.length≤140737488355328) :
 Calls Tryz.prog 129 #[bp b,stV ⟨1,name⟩ (.slice (some ⟨b0,off,none⟩) 1 cap1) (.slice ao2 n2 cap2) (.slice ao3 n3 cap3),ci (n:Int)] w fun e w'=>e = .returned (.tuple #[])∧PWrote w0 B b T w w':=by
 have f0:=Fr.alloc (fun _=>False) w (stO 1 name (.slice (some ⟨b0,off,none⟩) 1 cap1) (.slice ao2 n2 cap2) (.slice ao3 n3 cap3))
 have hbx:Hidden ((w.alloc (stO 1 name (.slice (some ⟨b0,off,none⟩) 1 cap1) (.slice ao2 n2 cap2) (.slice ao3 n3 cap3))).heap[w.heap.size]?=some (stO 1 name (.slice (some ⟨b0,off,none⟩) 1 cap1) (.slice ao2 n2 cap2) (.slice ao3 n3 cap3))):=alloc_new _ _
 have g0:=hw.fr.same f0
 have hne:=ne_pbld hw.bld
 have hlen:(txA txS x kx 1).length≤140737488355328:=by
  have:=congrArg List.length (show _=T from hT)
  simp only [List.length_append] at this
  omega
 have ke:=fun (w1:World) (f1:Fr (fun _=>False) (w.alloc (stO 1 name (.slice (some ⟨b0,off,none⟩) 1 cap1) (.slice ao2 n2 cap2) (.slice ao3 n3 cap3))) w1)=>exprText_any x kx (exV x (.slice aok kx.len capk)) w1 ho hx hs hsl ⟨aok,capk,rfl,hk.keep (g0.same f1)⟩ (tab_fr ht (g0.same f1)) hlen
 generalize txA txS x kx 1=E at ke hT hlen
 have kl:=fun (w1:World) (f1:Fr (fun _=>False) (w.alloc (stO 1 name (.slice (some ⟨b0,off,none⟩) 1 cap1) (.slice ao2 n2 cap2) (.slice ao3 n3 cap3))) w1)=>line_new2 n [[108,101,116,32],name,[32,61,32],E,[59]] acc T w0 w1 B b (hw.quiet (f0.same f1)) hn (by simp) (by rw [←(show _=T from hT)];simp) hl
 have hd0:Fr (fun _=>False) (w.alloc (stO 1 name (.slice (some ⟨b0,off,none⟩) 1 cap1) (.slice ao2 n2 cap2) (.slice ao3 n3 cap3))) (w.alloc (stO 1 name (.slice (some ⟨b0,off,none⟩) 1 cap1) (.slice ao2 n2 cap2) (.slice ao3 n3 cap3))).drew:=Fr.drew _ _
 obtain ⟨c0,c1,c2,c3,c4⟩:=st_box hbx
 have d0:=g0.cellN h0
 have d1:=g0.cellN h1
 have d2:=g0.cellN h2
 have d3:=g0.cellN h3
 have d4:=g0.cellN h4
 have d5:=g0.cellN h5
 have d6:=g0.cellN h6
 clear hT
 go_enter Tryz.func129,Tryz.ntmps129
 go_wp2_with fail
 go_region_held3 (fun w'=>w'.cell? ⟨w.heap.size,1,none⟩=some (ct name)∧w'.cell? ⟨w.heap.size,2,none⟩=some (.slice (some ⟨b0,off,none⟩) 1 cap1)∧w'.cell? ⟨b0,off,none⟩=some (ci x.kind)∧w'.cell? ⟨b0,off+1,none⟩=some (ci x.op)∧w'.cell? ⟨b0,off+2,none⟩=some (ct x.mod)∧w'.cell? ⟨b0,off+3,none⟩=some (ct x.name)∧w'.cell? ⟨b0,off+4,none⟩=some (ci x.vt)∧w'.cell? ⟨b0,off+5,none⟩=some (.int .u64 x.vb)∧w'.cell? ⟨b0,off+6,none⟩=some (.slice aok kx.len capk)) (first | (refine ⟨by assumption,by assumption,by assumption,by assumption,by assumption,by assumption,by assumption,by assumption,by assumption⟩) | go_keep) (first
  | (go_at_call 48;refine (ke _ hd0).mono ?_;rintro e wa ⟨rfl,fa⟩;have ga:=hd0.same fa;have q1:=ga.cellN c1;have q2:=ga.cellN c2;have y0:=ga.cellN d0;have y1:=ga.cellN d1;have y2:=ga.cellN d2;have y3:=ga.cellN d3;have y4:=ga.cellN d4;have y5:=ga.cellN d5;have y6:=ga.cellN d6)
  | (go_at_call 37;refine (kl wa (hd0.same fa)).mono ?_;rintro e wz ⟨rfl,p2,g2⟩;obtain ⟨b0',b1',b2',b3',b4'⟩:=st_box (bs_keep g2 ((hd0.same fa).heap hbx (fun f=>f)) hne (by decide));have z0:=p2.fr.cellN h0;have z1:=p2.fr.cellN h1;have z2:=p2.fr.cellN h2;have z3:=p2.fr.cellN h3;have z4:=p2.fr.cellN h4;have z5:=p2.fr.cellN h5;have z6:=p2.fr.cellN h6))
 all_goals
  go_wp2_with fail
  go_end0
  exact ⟨rfl,p2,bs_then (f0.same (hd0.same fa)) g2⟩
theorem stmt_2 (n:Nat) (hn:n≤1000000) (name:Bs) (acc T:Bs) (w0 w:World) (B b:Nat) (ht:F.Tab w0) (hw:PW w0 B b acc w) (ao2 ao3:Option Addr) (n2 n3 cap2 cap3:Nat) (x:EH) (kx:Exs) (b0 off cap1:Nat) (aok:Option Addr) (capk:Nat) (ho:OkE x) (hx:OkX kx) (hs:ShE x kx.len) (hsl:ShL kx)
 (hk:ExL w0 aok capk kx) (h0:w0.cell? ⟨b0,off,none⟩=some (ci x.kind)) (h1:w0.cell? ⟨b0,off+1,none⟩=some (ci x.op)) (h2:w0.cell? ⟨b0,off+2,none⟩=some (ct x.mod)) (h3:w0.cell? ⟨b0,off+3,none⟩=some (ct x.name)) (h4:w0.cell? ⟨b0,off+4,none⟩=some (ci x.vt)) (h5:w0.cell? ⟨b0,off+5,none⟩=some (.int .u64 x.vb)) (h6:w0.cell? ⟨b0,off+6,none⟩=some (.slice aok kx.len capk))
 (hT:Hidden (acc++(pad n++(name++[32,61,32]++txA txS x kx 1++[59,10]))=T)) (hl:T.length≤140737488355328) :
 Calls Tryz.prog 129 #[bp b,stV ⟨2,name⟩ (.slice (some ⟨b0,off,none⟩) 1 cap1) (.slice ao2 n2 cap2) (.slice ao3 n3 cap3),ci (n:Int)] w fun e w'=>e = .returned (.tuple #[])∧PWrote w0 B b T w w':=by
 have f0:=Fr.alloc (fun _=>False) w (stO 2 name (.slice (some ⟨b0,off,none⟩) 1 cap1) (.slice ao2 n2 cap2) (.slice ao3 n3 cap3))
 have hbx:Hidden ((w.alloc (stO 2 name (.slice (some ⟨b0,off,none⟩) 1 cap1) (.slice ao2 n2 cap2) (.slice ao3 n3 cap3))).heap[w.heap.size]?=some (stO 2 name (.slice (some ⟨b0,off,none⟩) 1 cap1) (.slice ao2 n2 cap2) (.slice ao3 n3 cap3))):=alloc_new _ _
 have g0:=hw.fr.same f0
 have hne:=ne_pbld hw.bld
 have hlen:(txA txS x kx 1).length≤140737488355328:=by
  have:=congrArg List.length (show _=T from hT)
  simp only [List.length_append] at this
  omega
 have ke:=fun (w1:World) (f1:Fr (fun _=>False) (w.alloc (stO 2 name (.slice (some ⟨b0,off,none⟩) 1 cap1) (.slice ao2 n2 cap2) (.slice ao3 n3 cap3))) w1)=>exprText_any x kx (exV x (.slice aok kx.len capk)) w1 ho hx hs hsl ⟨aok,capk,rfl,hk.keep (g0.same f1)⟩ (tab_fr ht (g0.same f1)) hlen
 generalize txA txS x kx 1=E at ke hT hlen
 have kl:=fun (w1:World) (f1:Fr (fun _=>False) (w.alloc (stO 2 name (.slice (some ⟨b0,off,none⟩) 1 cap1) (.slice ao2 n2 cap2) (.slice ao3 n3 cap3))) w1)=>line_new2 n [name,[32,61,32],E,[59]] acc T w0 w1 B b (hw.quiet (f0.same f1)) hn (by simp) (by rw [←(show _=T from hT)];simp) hl
 have hd0:Fr (fun _=>False) (w.alloc (stO 2 name (.slice (some ⟨b0,off,none⟩) 1 cap1) (.slice ao2 n2 cap2) (.slice ao3 n3 cap3))) (w.alloc (stO 2 name (.slice (some ⟨b0,off,none⟩) 1 cap1) (.slice ao2 n2 cap2) (.slice ao3 n3 cap3))).drew:=Fr.drew _ _
 obtain ⟨c0,c1,c2,c3,c4⟩:=st_box hbx
 have d0:=g0.cellN h0
 have d1:=g0.cellN h1
 have d2:=g0.cellN h2
 have d3:=g0.cellN h3
 have d4:=g0.cellN h4
 have d5:=g0.cellN h5
 have d6:=g0.cellN h6
 clear hT
 go_enter Tryz.func129,Tryz.ntmps129
 go_wp2_with fail
 go_region_held3 (fun w'=>w'.cell? ⟨w.heap.size,1,none⟩=some (ct name)∧w'.cell? ⟨w.heap.size,2,none⟩=some (.slice (some ⟨b0,off,none⟩) 1 cap1)∧w'.cell? ⟨b0,off,none⟩=some (ci x.kind)∧w'.cell? ⟨b0,off+1,none⟩=some (ci x.op)∧w'.cell? ⟨b0,off+2,none⟩=some (ct x.mod)∧w'.cell? ⟨b0,off+3,none⟩=some (ct x.name)∧w'.cell? ⟨b0,off+4,none⟩=some (ci x.vt)∧w'.cell? ⟨b0,off+5,none⟩=some (.int .u64 x.vb)∧w'.cell? ⟨b0,off+6,none⟩=some (.slice aok kx.len capk)) (first | (refine ⟨by assumption,by assumption,by assumption,by assumption,by assumption,by assumption,by assumption,by assumption,by assumption⟩) | go_keep) (first
  | (go_at_call 48;refine (ke _ hd0).mono ?_;rintro e wa ⟨rfl,fa⟩;have ga:=hd0.same fa;have q1:=ga.cellN c1;have q2:=ga.cellN c2;have y0:=ga.cellN d0;have y1:=ga.cellN d1;have y2:=ga.cellN d2;have y3:=ga.cellN d3;have y4:=ga.cellN d4;have y5:=ga.cellN d5;have y6:=ga.cellN d6)
  | (go_at_call 37;refine (kl wa (hd0.same fa)).mono ?_;rintro e wz ⟨rfl,p2,g2⟩;obtain ⟨b0',b1',b2',b3',b4'⟩:=st_box (bs_keep g2 ((hd0.same fa).heap hbx (fun f=>f)) hne (by decide));have z0:=p2.fr.cellN h0;have z1:=p2.fr.cellN h1;have z2:=p2.fr.cellN h2;have z3:=p2.fr.cellN h3;have z4:=p2.fr.cellN h4;have z5:=p2.fr.cellN h5;have z6:=p2.fr.cellN h6))
 all_goals
  go_wp2_with fail
  go_end0
  exact ⟨rfl,p2,bs_then (f0.same (hd0.same fa)) g2⟩
end
section
open Go.RowKit Te
theorem stmt_4 (n:Nat) (hn:n≤1000000) (name:Bs) (acc T:Bs) (w0 w:World) (B b:Nat) (ht:F.Tab w0) (hw:PW w0 B b acc w) (ao2 ao3:Option Addr) (bo el:Sts) (cap2 cap3:Nat) (x:EH) (kx:Exs) (b0 off cap1:Nat) (aok:Option Addr) (capk:Nat) (ho:OkE x) (hx:OkX kx) (hs:ShE x kx.len) (hsl:ShL kx)
 (hk:ExL w0 aok capk kx) (h0:w0.cell? ⟨b0,off,none⟩=some (ci x.kind)) (h1:w0.cell? ⟨b0,off+1,none⟩=some (ci x.op)) (h2:w0.cell? ⟨b0,off+2,none⟩=some (ct x.mod)) (h3:w0.cell? ⟨b0,off+3,none⟩=some (ct x.name)) (h4:w0.cell? ⟨b0,off+4,none⟩=some (ci x.vt)) (h5:w0.cell? ⟨b0,off+5,none⟩=some (.int .u64 x.vb)) (h6:w0.cell? ⟨b0,off+6,none⟩=some (.slice aok kx.len capk))
 (hB:BlkW bo (n+1)) (hbo:StL w0 ao2 cap2 bo)
 (hT:Hidden (acc++(pad n++([119,104,105,108,101,32]++txA txS x kx 1++[32,123,10])++stT txS bo (n+1)++(pad n++[125,10]))=T)) (hl:T.length≤140737488355328) :
 Calls Tryz.prog 129 #[bp b,stV ⟨4,name⟩ (.slice (some ⟨b0,off,none⟩) 1 cap1) (.slice ao2 bo.len cap2) (.slice ao3 el.len cap3),ci (n:Int)] w fun e w'=>e = .returned (.tuple #[])∧PWrote w0 B b T w w':=by
 have f0:=Fr.alloc (fun _=>False) w (stO 4 name (.slice (some ⟨b0,off,none⟩) 1 cap1) (.slice ao2 bo.len cap2) (.slice ao3 el.len cap3))
 have hbx:Hidden ((w.alloc (stO 4 name (.slice (some ⟨b0,off,none⟩) 1 cap1) (.slice ao2 bo.len cap2) (.slice ao3 el.len cap3))).heap[w.heap.size]?=some (stO 4 name (.slice (some ⟨b0,off,none⟩) 1 cap1) (.slice ao2 bo.len cap2) (.slice ao3 el.len cap3))):=alloc_new _ _
 have g0:=hw.fr.same f0
 have hne:=ne_pbld hw.bld
 have d0:=g0.cellN h0
 have d1:=g0.cellN h1
 have d2:=g0.cellN h2
 have d3:=g0.cellN h3
 have d4:=g0.cellN h4
 have d5:=g0.cellN h5
 have d6:=g0.cellN h6
 have hlen:(txA txS x kx 1).length≤140737488355328:=by
  have:=congrArg List.length (show _=T from hT)
  simp only [List.length_append] at this
  omega
 have ke:=exprText_any x kx (exV x (.slice aok kx.len capk)) (w.alloc (stO 4 name (.slice (some ⟨b0,off,none⟩) 1 cap1) (.slice ao2 bo.len cap2) (.slice ao3 el.len cap3))) ho hx hs hsl ⟨aok,capk,rfl,hk.keep g0⟩ (tab_fr ht g0) hlen
 generalize txA txS x kx 1=E at ke hT hlen
 have m2:cap2≤9223372036854775807:=by have:=hbo.2.1;unfold maxLen at this;omega
 have m2':=hbo.1
 obtain ⟨T1,hT1'⟩:∃T1,acc++Te.pad n++[[119,104,105,108,101,32],E,[32,123]].flatten++[10]=T1:=⟨_,rfl⟩
 have hT1:Hidden (acc++Te.pad n++[[119,104,105,108,101,32],E,[32,123]].flatten++[10]=T1):=hT1'
 clear hT1'
 have rT1:Hidden (T1++(stT txS bo (n+1)++(pad n++[125,10]))=T):=by
  show _=T
  rw [←(show _=T from hT),←(show _=T1 from hT1)]
  simp
 have lT1:T1.length≤140737488355328:=app_le (show _=T from rT1) hl
 obtain ⟨T2,hT2'⟩:∃T2,T1++stT txS bo (n+1)=T2:=⟨_,rfl⟩
 have hT2:Hidden (T1++stT txS bo (n+1)=T2):=hT2'
 clear hT2'
 have rT2:Hidden (T2++(pad n++[125,10])=T):=by
  show _=T
  rw [←(show _=T from rT1),←(show _=T2 from hT2)]
  simp
 have lT2:T2.length≤140737488355328:=app_le (show _=T from rT2) hl
 clear hT
 go_enter Tryz.func129,Tryz.ntmps129
 go_wp2_with fail
 go_at_call 48
 refine ke.mono ?_
 rintro e w1 ⟨rfl,f1⟩
 have kl:=line_new2 n [[119,104,105,108,101,32],E,[32,123]] acc T1 w0 w1 B b (hw.quiet (f0.same f1)) hn (by simp) (hT1) lT1
 go_wp2_with fail
 go_at_call 37
 refine kl.mono ?_
 rintro e w2 ⟨rfl,p2,g2⟩
 obtain ⟨c0,c1,c2,c3,c4⟩:=st_box (bs_keep g2 (f1.heap hbx (fun f=>f)) hne (by decide))
 have kbw3:=hB ((n:Int)+1) (by omega) ao2 cap2 w0 w2 B b T1 T2 hbo ht p2 hT2 lT2
 go_wp2_with fail
 go_at_call 82
 refine kbw3.mono ?_
 rintro e w3 ⟨rfl,pw3,g3⟩
 have kz:=line_new2 n [[125]] T2 T w0 w3 B b (pw3) hn (by simp) (by rw [←(show _=T from rT2)];simp) hl
 go_wp2_with fail
 go_at_call 37
 refine kz.mono ?_
 rintro e w4 ⟨rfl,p4,g4⟩
 go_wp2_with fail
 go_end0
 exact ⟨rfl,p4,bs_then (f0.same f1) (bs_trans g2 (bs_trans g3 g4))⟩
theorem stmt_3a (n:Nat) (hn:n≤1000000) (name:Bs) (acc T:Bs) (w0 w:World) (B b:Nat) (ht:F.Tab w0) (hw:PW w0 B b acc w) (ao2 ao3:Option Addr) (bo el:Sts) (cap2 cap3:Nat) (x:EH) (kx:Exs) (b0 off cap1:Nat) (aok:Option Addr) (capk:Nat) (ho:OkE x) (hx:OkX kx) (hs:ShE x kx.len) (hsl:ShL kx)
 (hk:ExL w0 aok capk kx) (h0:w0.cell? ⟨b0,off,none⟩=some (ci x.kind)) (h1:w0.cell? ⟨b0,off+1,none⟩=some (ci x.op)) (h2:w0.cell? ⟨b0,off+2,none⟩=some (ct x.mod)) (h3:w0.cell? ⟨b0,off+3,none⟩=some (ct x.name)) (h4:w0.cell? ⟨b0,off+4,none⟩=some (ci x.vt)) (h5:w0.cell? ⟨b0,off+5,none⟩=some (.int .u64 x.vb)) (h6:w0.cell? ⟨b0,off+6,none⟩=some (.slice aok kx.len capk))
 (hB:BlkW bo (n+1)) (hbo:StL w0 ao2 cap2 bo) (hz:el.len=0)
 (hT:Hidden (acc++(pad n++([105,102,32]++txA txS x kx 1++[32,123,10])++stT txS bo (n+1)++(pad n++[125,10]))=T)) (hl:T.length≤140737488355328) :
 Calls Tryz.prog 129 #[bp b,stV ⟨3,name⟩ (.slice (some ⟨b0,off,none⟩) 1 cap1) (.slice ao2 bo.len cap2) (.slice ao3 el.len cap3),ci (n:Int)] w fun e w'=>e = .returned (.tuple #[])∧PWrote w0 B b T w w':=by
 rw [hz]
 have f0:=Fr.alloc (fun _=>False) w (stO 3 name (.slice (some ⟨b0,off,none⟩) 1 cap1) (.slice ao2 bo.len cap2) (.slice ao3 0 cap3))
 have hbx:Hidden ((w.alloc (stO 3 name (.slice (some ⟨b0,off,none⟩) 1 cap1) (.slice ao2 bo.len cap2) (.slice ao3 0 cap3))).heap[w.heap.size]?=some (stO 3 name (.slice (some ⟨b0,off,none⟩) 1 cap1) (.slice ao2 bo.len cap2) (.slice ao3 0 cap3))):=alloc_new _ _
 have g0:=hw.fr.same f0
 have hne:=ne_pbld hw.bld
 have d0:=g0.cellN h0
 have d1:=g0.cellN h1
 have d2:=g0.cellN h2
 have d3:=g0.cellN h3
 have d4:=g0.cellN h4
 have d5:=g0.cellN h5
 have d6:=g0.cellN h6
 have hlen:(txA txS x kx 1).length≤140737488355328:=by
  have:=congrArg List.length (show _=T from hT)
  simp only [List.length_append] at this
  omega
 have ke:=exprText_any x kx (exV x (.slice aok kx.len capk)) (w.alloc (stO 3 name (.slice (some ⟨b0,off,none⟩) 1 cap1) (.slice ao2 bo.len cap2) (.slice ao3 0 cap3))) ho hx hs hsl ⟨aok,capk,rfl,hk.keep g0⟩ (tab_fr ht g0) hlen
 generalize txA txS x kx 1=E at ke hT hlen
 have m2:cap2≤9223372036854775807:=by have:=hbo.2.1;unfold maxLen at this;omega
 have m2':=hbo.1
 obtain ⟨T1,hT1'⟩:∃T1,acc++Te.pad n++[[105,102,32],E,[32,123]].flatten++[10]=T1:=⟨_,rfl⟩
 have hT1:Hidden (acc++Te.pad n++[[105,102,32],E,[32,123]].flatten++[10]=T1):=hT1'
 clear hT1'
 have rT1:Hidden (T1++(stT txS bo (n+1)++(pad n++[125,10]))=T):=by
  show _=T
  rw [←(show _=T from hT),←(show _=T1 from hT1)]
  simp
 have lT1:T1.length≤140737488355328:=app_le (show _=T from rT1) hl
 obtain ⟨T2,hT2'⟩:∃T2,T1++stT txS bo (n+1)=T2:=⟨_,rfl⟩
 have hT2:Hidden (T1++stT txS bo (n+1)=T2):=hT2'
 clear hT2'
 have rT2:Hidden (T2++(pad n++[125,10])=T):=by
  show _=T
  rw [←(show _=T from rT1),←(show _=T2 from hT2)]
  simp
 have lT2:T2.length≤140737488355328:=app_le (show _=T from rT2) hl
 clear hT hz
 go_enter Tryz.func129,Tryz.ntmps129
 go_wp2_with fail
 go_at_call 48
 refine ke.mono ?_
 rintro e w1 ⟨rfl,f1⟩
 have kl:=line_new2 n [[105,102,32],E,[32,123]] acc T1 w0 w1 B b (hw.quiet (f0.same f1)) hn (by simp) (hT1) lT1
 go_wp2_with fail
 go_at_call 37
 refine kl.mono ?_
 rintro e w2 ⟨rfl,p2,g2⟩
 have hb2:=bs_keep g2 (f1.heap hbx (fun f=>f)) hne (by decide)
 obtain ⟨c0,c1,c2,c3,c4⟩:=st_box hb2
 have kbw3:=hB ((n:Int)+1) (by omega) ao2 cap2 w0 w2 B b T1 T2 hbo ht p2 hT2 lT2
 go_wp2_with fail
 go_at_call 82
 refine kbw3.mono ?_
 rintro e w3 ⟨rfl,pw3,g3⟩
 obtain ⟨c0,c1,c2,c3,c4⟩:=st_box (bs_keep g3 hb2 hne (by decide))
 have kz:=line_new2 n [[125]] T2 T w0 w3 B b (pw3) hn (by simp) (by rw [←(show _=T from rT2)];simp) hl
 go_wp2_with fail
 go_at_call 37
 refine kz.mono ?_
 rintro e w4 ⟨rfl,p4,g4⟩
 go_wp2_with fail
 go_end0
 exact ⟨rfl,p4,bs_then (f0.same f1) (bs_trans g2 (bs_trans g3 g4))⟩
theorem stmt_3b (n:Nat) (hn:n≤1000000) (name:Bs) (acc T:Bs) (w0 w:World) (B b:Nat) (ht:F.Tab w0) (hw:PW w0 B b acc w) (ao2 ao3:Option Addr) (bo el:Sts) (cap2 cap3:Nat) (x:EH) (kx:Exs) (b0 off cap1:Nat) (aok:Option Addr) (capk:Nat) (ho:OkE x) (hx:OkX kx) (hs:ShE x kx.len) (hsl:ShL kx)
 (hk:ExL w0 aok capk kx) (h0:w0.cell? ⟨b0,off,none⟩=some (ci x.kind)) (h1:w0.cell? ⟨b0,off+1,none⟩=some (ci x.op)) (h2:w0.cell? ⟨b0,off+2,none⟩=some (ct x.mod)) (h3:w0.cell? ⟨b0,off+3,none⟩=some (ct x.name)) (h4:w0.cell? ⟨b0,off+4,none⟩=some (ci x.vt)) (h5:w0.cell? ⟨b0,off+5,none⟩=some (.int .u64 x.vb)) (h6:w0.cell? ⟨b0,off+6,none⟩=some (.slice aok kx.len capk))
 (hB:BlkW bo (n+1)) (hbo:StL w0 ao2 cap2 bo) (hL:BlkW el (n+1)) (hel:StL w0 ao3 cap3 el) (hz:0<el.len)
 (hT:Hidden (acc++(pad n++([105,102,32]++txA txS x kx 1++[32,123,10])++stT txS bo (n+1)++(pad n++[125,32,101,108,115,101,32,123,10])++stT txS el (n+1)++(pad n++[125,10]))=T)) (hl:T.length≤140737488355328) :
 Calls Tryz.prog 129 #[bp b,stV ⟨3,name⟩ (.slice (some ⟨b0,off,none⟩) 1 cap1) (.slice ao2 bo.len cap2) (.slice ao3 el.len cap3),ci (n:Int)] w fun e w'=>e = .returned (.tuple #[])∧PWrote w0 B b T w w':=by
 have f0:=Fr.alloc (fun _=>False) w (stO 3 name (.slice (some ⟨b0,off,none⟩) 1 cap1) (.slice ao2 bo.len cap2) (.slice ao3 el.len cap3))
 have hbx:Hidden ((w.alloc (stO 3 name (.slice (some ⟨b0,off,none⟩) 1 cap1) (.slice ao2 bo.len cap2) (.slice ao3 el.len cap3))).heap[w.heap.size]?=some (stO 3 name (.slice (some ⟨b0,off,none⟩) 1 cap1) (.slice ao2 bo.len cap2) (.slice ao3 el.len cap3))):=alloc_new _ _
 have g0:=hw.fr.same f0
 have hne:=ne_pbld hw.bld
 have d0:=g0.cellN h0
 have d1:=g0.cellN h1
 have d2:=g0.cellN h2
 have d3:=g0.cellN h3
 have d4:=g0.cellN h4
 have d5:=g0.cellN h5
 have d6:=g0.cellN h6
 have hlen:(txA txS x kx 1).length≤140737488355328:=by
  have:=congrArg List.length (show _=T from hT)
  simp only [List.length_append] at this
  omega
 have ke:=exprText_any x kx (exV x (.slice aok kx.len capk)) (w.alloc (stO 3 name (.slice (some ⟨b0,off,none⟩) 1 cap1) (.slice ao2 bo.len cap2) (.slice ao3 el.len cap3))) ho hx hs hsl ⟨aok,capk,rfl,hk.keep g0⟩ (tab_fr ht g0) hlen
 generalize txA txS x kx 1=E at ke hT hlen
 have m2:cap2≤9223372036854775807:=by have:=hbo.2.1;unfold maxLen at this;omega
 have m2':=hbo.1
 have m3:cap3≤9223372036854775807:=by have:=hel.2.1;unfold maxLen at this;omega
 have m3':=hel.1
 obtain ⟨T1,hT1'⟩:∃T1,acc++Te.pad n++[[105,102,32],E,[32,123]].flatten++[10]=T1:=⟨_,rfl⟩
 have hT1:Hidden (acc++Te.pad n++[[105,102,32],E,[32,123]].flatten++[10]=T1):=hT1'
 clear hT1'
 have rT1:Hidden (T1++(stT txS bo (n+1)++((pad n++[125,32,101,108,115,101,32,123,10])++(stT txS el (n+1)++(pad n++[125,10]))))=T):=by
  show _=T
  rw [←(show _=T from hT),←(show _=T1 from hT1)]
  simp
 have lT1:T1.length≤140737488355328:=app_le (show _=T from rT1) hl
 obtain ⟨T2,hT2'⟩:∃T2,T1++stT txS bo (n+1)=T2:=⟨_,rfl⟩
 have hT2:Hidden (T1++stT txS bo (n+1)=T2):=hT2'
 clear hT2'
 have rT2:Hidden (T2++((pad n++[125,32,101,108,115,101,32,123,10])++(stT txS el (n+1)++(pad n++[125,10])))=T):=by
  show _=T
  rw [←(show _=T from rT1),←(show _=T2 from hT2)]
  simp
 have lT2:T2.length≤140737488355328:=app_le (show _=T from rT2) hl
 obtain ⟨T3,hT3'⟩:∃T3,T2++Te.pad n++[[125,32,101,108,115,101,32,123]].flatten++[10]=T3:=⟨_,rfl⟩
 have hT3:Hidden (T2++Te.pad n++[[125,32,101,108,115,101,32,123]].flatten++[10]=T3):=hT3'
 clear hT3'
 have rT3:Hidden (T3++(stT txS el (n+1)++(pad n++[125,10]))=T):=by
  show _=T
  rw [←(show _=T from rT2),←(show _=T3 from hT3)]
  simp
 have lT3:T3.length≤140737488355328:=app_le (show _=T from rT3) hl
 obtain ⟨T4,hT4'⟩:∃T4,T3++stT txS el (n+1)=T4:=⟨_,rfl⟩
 have hT4:Hidden (T3++stT txS el (n+1)=T4):=hT4'
 clear hT4'
 have rT4:Hidden (T4++(pad n++[125,10])=T):=by
  show _=T
  rw [←(show _=T from rT3),←(show _=T4 from hT4)]
  simp
 have lT4:T4.length≤140737488355328:=app_le (show _=T from rT4) hl
 clear hT
 go_enter Tryz.func129,Tryz.ntmps129
 go_wp2_with fail
 go_at_call 48
 refine ke.mono ?_
 rintro e w1 ⟨rfl,f1⟩
 have kl:=line_new2 n [[105,102,32],E,[32,123]] acc T1 w0 w1 B b (hw.quiet (f0.same f1)) hn (by simp) (hT1) lT1
 go_wp2_with fail
 go_at_call 37
 refine kl.mono ?_
 rintro e w2 ⟨rfl,p2,g2⟩
 have hb2:=bs_keep g2 (f1.heap hbx (fun f=>f)) hne (by decide)
 obtain ⟨c0,c1,c2,c3,c4⟩:=st_box hb2
 have kbw3:=hB ((n:Int)+1) (by omega) ao2 cap2 w0 w2 B b T1 T2 hbo ht p2 hT2 lT2
 go_wp2_with fail
 go_at_call 82
 refine kbw3.mono ?_
 rintro e w3 ⟨rfl,pw3,g3⟩
 have hb3:=bs_keep g3 hb2 hne (by decide)
 obtain ⟨c0,c1,c2,c3,c4⟩:=st_box hb3
 have ke2:=line_new2 n [[125,32,101,108,115,101,32,123]] T2 T3 w0 w3 B b (pw3) hn (by simp) (hT3) lT3
 go_wp2_with fail
 go_at_call 37
 refine ke2.mono ?_
 rintro e w4 ⟨rfl,p4,g4⟩
 obtain ⟨c0,c1,c2,c3,c4⟩:=st_box (bs_keep g4 hb3 hne (by decide))
 have kbw5:=hL ((n:Int)+1) (by omega) ao3 cap3 w0 w4 B b T3 T4 hel ht p4 hT4 lT4
 go_wp2_with fail
 go_at_call 82
 refine kbw5.mono ?_
 rintro e w5 ⟨rfl,pw5,g5⟩
 have kz:=line_new2 n [[125]] T4 T w0 w5 B b (pw5) hn (by simp) (by rw [←(show _=T from rT4)];simp) hl
 go_wp2_with fail
 go_at_call 37
 refine kz.mono ?_
 rintro e w6 ⟨rfl,p6,g6⟩
 go_wp2_with fail
 go_end0
 exact ⟨rfl,p6,bs_then (f0.same f1) (bs_trans g2 (bs_trans g3 (bs_trans g4 (bs_trans g5 g6))))⟩
end
section
open Go.RowKit Te
theorem stmt_8 (n:Nat) (hn:n≤1000000) (name:Bs) (acc T:Bs) (w0 w:World) (B b:Nat) (ht:F.Tab w0) (hw:PW w0 B b acc w) (ao2 ao3:Option Addr) (bo el:Sts) (cap2 cap3:Nat) (ao1:Option Addr) (cap1:Nat) (hB:BlkW bo (n+1)) (hbo:StL w0 ao2 cap2 bo) (hL:BlkW el (n+1)) (hel:StL w0 ao3 cap3 el)
 (hT:Hidden (acc++(pad n++[116,114,121,32,123,10]++stT txS bo (n+1)++(pad n++([125,32,99,97,116,99,104,32]++name++[32,123,10]))++stT txS el (n+1)++(pad n++[125,10]))=T)) (hl:T.length≤140737488355328) :
 Calls Tryz.prog 129 #[bp b,stV ⟨8,name⟩ (.slice ao1 0 cap1) (.slice ao2 bo.len cap2) (.slice ao3 el.len cap3),ci (n:Int)] w fun e w'=>e = .returned (.tuple #[])∧PWrote w0 B b T w w':=by
 have f0:=Fr.alloc (fun _=>False) w (stO 8 name (.slice ao1 0 cap1) (.slice ao2 bo.len cap2) (.slice ao3 el.len cap3))
 have hbx:Hidden ((w.alloc (stO 8 name (.slice ao1 0 cap1) (.slice ao2 bo.len cap2) (.slice ao3 el.len cap3))).heap[w.heap.size]?=some (stO 8 name (.slice ao1 0 cap1) (.slice ao2 bo.len cap2) (.slice ao3 el.len cap3))):=alloc_new _ _
 have g0:=hw.fr.same f0
 have hne:=ne_pbld hw.bld
 have m2:cap2≤9223372036854775807:=by have:=hbo.2.1;unfold maxLen at this;omega
 have m2':=hbo.1
 have m3:cap3≤9223372036854775807:=by have:=hel.2.1;unfold maxLen at this;omega
 have m3':=hel.1
 obtain ⟨T1,hT1'⟩:∃T1,acc++Te.pad n++[[116,114,121,32,123]].flatten++[10]=T1:=⟨_,rfl⟩
 have hT1:Hidden (acc++Te.pad n++[[116,114,121,32,123]].flatten++[10]=T1):=hT1'
 clear hT1'
 have rT1:Hidden (T1++(stT txS bo (n+1)++((pad n++([125,32,99,97,116,99,104,32]++name++[32,123,10]))++(stT txS el (n+1)++(pad n++[125,10]))))=T):=by
  show _=T
  rw [←(show _=T from hT),←(show _=T1 from hT1)]
  simp
 have lT1:T1.length≤140737488355328:=app_le (show _=T from rT1) hl
 obtain ⟨T2,hT2'⟩:∃T2,T1++stT txS bo (n+1)=T2:=⟨_,rfl⟩
 have hT2:Hidden (T1++stT txS bo (n+1)=T2):=hT2'
 clear hT2'
 have rT2:Hidden (T2++((pad n++([125,32,99,97,116,99,104,32]++name++[32,123,10]))++(stT txS el (n+1)++(pad n++[125,10])))=T):=by
  show _=T
  rw [←(show _=T from rT1),←(show _=T2 from hT2)]
  simp
 have lT2:T2.length≤140737488355328:=app_le (show _=T from rT2) hl
 obtain ⟨T3,hT3'⟩:∃T3,T2++Te.pad n++[[125,32,99,97,116,99,104,32],name,[32,123]].flatten++[10]=T3:=⟨_,rfl⟩
 have hT3:Hidden (T2++Te.pad n++[[125,32,99,97,116,99,104,32],name,[32,123]].flatten++[10]=T3):=hT3'
 clear hT3'
 have rT3:Hidden (T3++(stT txS el (n+1)++(pad n++[125,10]))=T):=by
  show _=T
  rw [←(show _=T from rT2),←(show _=T3 from hT3)]
  simp
 have lT3:T3.length≤140737488355328:=app_le (show _=T from rT3) hl
 obtain ⟨T4,hT4'⟩:∃T4,T3++stT txS el (n+1)=T4:=⟨_,rfl⟩
 have hT4:Hidden (T3++stT txS el (n+1)=T4):=hT4'
 clear hT4'
 have rT4:Hidden (T4++(pad n++[125,10])=T):=by
  show _=T
  rw [←(show _=T from rT3),←(show _=T4 from hT4)]
  simp
 have lT4:T4.length≤140737488355328:=app_le (show _=T from rT4) hl
 clear hT
 have kl:=line_new2 n [[116,114,121,32,123]] acc T1 w0 (w.alloc (stO 8 name (.slice ao1 0 cap1) (.slice ao2 bo.len cap2) (.slice ao3 el.len cap3))) B b (hw.quiet f0) hn (by simp) hT1 lT1
 rw [show (w.alloc (stO 8 name (.slice ao1 0 cap1) (.slice ao2 bo.len cap2) (.slice ao3 el.len cap3))).heap.size=w.heap.size+1 by simp] at kl
 go_enter Tryz.func129,Tryz.ntmps129
 go_wp2_with fail
 go_at_call 37
 refine kl.mono ?_
 rintro e w2 ⟨rfl,p2,g2⟩
 have hb2:=bs_keep g2 hbx hne (by decide)
 obtain ⟨c0,c1,c2,c3,c4⟩:=st_box hb2
 have kbw3:=hB ((n:Int)+1) (by omega) ao2 cap2 w0 w2 B b T1 T2 hbo ht p2 hT2 lT2
 go_wp2_with fail
 go_at_call 82
 refine kbw3.mono ?_
 rintro e w3 ⟨rfl,pw3,g3⟩
 have hb3:=bs_keep g3 hb2 hne (by decide)
 obtain ⟨c0,c1,c2,c3,c4⟩:=st_box hb3
 have ke2:=line_new2 n [[125,32,99,97,116,99,104,32],name,[32,123]] T2 T3 w0 w3 B b (pw3) hn (by simp) (hT3) lT3
 go_wp2_with fail
 go_at_call 37
 refine ke2.mono ?_
 rintro e w4 ⟨rfl,p4,g4⟩
 obtain ⟨c0,c1,c2,c3,c4⟩:=st_box (bs_keep g4 hb3 hne (by decide))
 have kbw5:=hL ((n:Int)+1) (by omega) ao3 cap3 w0 w4 B b T3 T4 hel ht p4 hT4 lT4
 go_wp2_with fail
 go_at_call 82
 refine kbw5.mono ?_
 rintro e w5 ⟨rfl,pw5,g5⟩
 have kz:=line_new2 n [[125]] T4 T w0 w5 B b (pw5) hn (by simp) (by rw [←(show _=T from rT4)];simp) hl
 go_wp2_with fail
 go_at_call 37
 refine kz.mono ?_
 rintro e w6 ⟨rfl,p6,g6⟩
 go_wp2_with fail
 go_end0
 exact ⟨rfl,p6,bs_then f0 (bs_trans g2 (bs_trans g3 (bs_trans g4 (bs_trans g5 g6))))⟩
theorem stmt_5a (n:Nat) (hn:n≤1000000) (name:Bs) (acc T:Bs) (w0 w:World) (B b:Nat) (ht:F.Tab w0) (hw:PW w0 B b acc w) (ao2 ao3:Option Addr) (bo el:Sts) (cap2 cap3:Nat) (ao1:Option Addr) (cap1:Nat)
 (hT:Hidden (acc++(pad n++[114,101,116,117,114,110,59,10])=T)) (hl:T.length≤140737488355328) :
 Calls Tryz.prog 129 #[bp b,stV ⟨5,name⟩ (.slice ao1 0 cap1) (.slice ao2 bo.len cap2) (.slice ao3 el.len cap3),ci (n:Int)] w fun e w'=>e = .returned (.tuple #[])∧PWrote w0 B b T w w':=by
 have f0:=Fr.alloc (fun _=>False) w (stO 5 name (.slice ao1 0 cap1) (.slice ao2 bo.len cap2) (.slice ao3 el.len cap3))
 have hbx:Hidden ((w.alloc (stO 5 name (.slice ao1 0 cap1) (.slice ao2 bo.len cap2) (.slice ao3 el.len cap3))).heap[w.heap.size]?=some (stO 5 name (.slice ao1 0 cap1) (.slice ao2 bo.len cap2) (.slice ao3 el.len cap3))):=alloc_new _ _
 have g0:=hw.fr.same f0
 have hne:=ne_pbld hw.bld
 have kr:=returns_none n hn ao1 cap1 acc T w0 (w.alloc (stO 5 name (.slice ao1 0 cap1) (.slice ao2 bo.len cap2) (.slice ao3 el.len cap3))) B b (hw.quiet f0) hT hl
 clear hT
 go_enter Tryz.func129,Tryz.ntmps129
 go_wp2_with fail
 go_at_call 171
 refine kr.mono ?_
 rintro e w2 ⟨rfl,p2,g2⟩
 go_wp2_with fail
 go_end0
 exact ⟨rfl,p2,bs_then f0 g2⟩
theorem stmt_5b (n:Nat) (hn:n≤1000000) (name:Bs) (acc T:Bs) (w0 w:World) (B b:Nat) (ht:F.Tab w0) (hw:PW w0 B b acc w) (ao2 ao3:Option Addr) (bo el:Sts) (cap2 cap3:Nat) (x:EH) (kx:Exs) (b0 off cap1:Nat) (aok:Option Addr) (capk:Nat) (ho:OkE x) (hx:OkX kx) (hs:ShE x kx.len) (hsl:ShL kx)
 (hk:ExL w0 aok capk kx) (h0:w0.cell? ⟨b0,off,none⟩=some (ci x.kind)) (h1:w0.cell? ⟨b0,off+1,none⟩=some (ci x.op)) (h2:w0.cell? ⟨b0,off+2,none⟩=some (ct x.mod)) (h3:w0.cell? ⟨b0,off+3,none⟩=some (ct x.name)) (h4:w0.cell? ⟨b0,off+4,none⟩=some (ci x.vt)) (h5:w0.cell? ⟨b0,off+5,none⟩=some (.int .u64 x.vb)) (h6:w0.cell? ⟨b0,off+6,none⟩=some (.slice aok kx.len capk))
 (hT:Hidden (acc++(pad n++([114,101,116,117,114,110,32]++txA txS x kx 1++[59,10]))=T)) (hl:T.length≤140737488355328) :
 Calls Tryz.prog 129 #[bp b,stV ⟨5,name⟩ (.slice (some ⟨b0,off,none⟩) 1 cap1) (.slice ao2 bo.len cap2) (.slice ao3 el.len cap3),ci (n:Int)] w fun e w'=>e = .returned (.tuple #[])∧PWrote w0 B b T w w':=by
 have f0:=Fr.alloc (fun _=>False) w (stO 5 name (.slice (some ⟨b0,off,none⟩) 1 cap1) (.slice ao2 bo.len cap2) (.slice ao3 el.len cap3))
 have hbx:Hidden ((w.alloc (stO 5 name (.slice (some ⟨b0,off,none⟩) 1 cap1) (.slice ao2 bo.len cap2) (.slice ao3 el.len cap3))).heap[w.heap.size]?=some (stO 5 name (.slice (some ⟨b0,off,none⟩) 1 cap1) (.slice ao2 bo.len cap2) (.slice ao3 el.len cap3))):=alloc_new _ _
 have g0:=hw.fr.same f0
 have hne:=ne_pbld hw.bld
 have d0:=g0.cellN h0
 have d1:=g0.cellN h1
 have d2:=g0.cellN h2
 have d3:=g0.cellN h3
 have d4:=g0.cellN h4
 have d5:=g0.cellN h5
 have d6:=g0.cellN h6
 have kr:=returns_one n hn x kx b0 off cap1 aok capk acc T w0 (w.alloc (stO 5 name (.slice (some ⟨b0,off,none⟩) 1 cap1) (.slice ao2 bo.len cap2) (.slice ao3 el.len cap3))) B b (tab_fr ht g0) ho hx hs hsl (hk.keep g0) d0 d1 d2 d3 d4 d5 d6 (hw.quiet f0) hT hl
 clear hT d0 d1 d2 d3 d4 d5 d6
 go_enter Tryz.func129,Tryz.ntmps129
 go_wp2_with fail
 go_at_call 171
 refine kr.mono ?_
 rintro e w2 ⟨rfl,p2,g2⟩
 go_wp2_with fail
 go_end0
 exact ⟨rfl,p2,bs_then f0 g2⟩
end
section
open Go.RowKit Te
theorem one_ex {w0:World} {e:Exs} {ao1:Option Addr} {cap1:Nat} (h:ExL w0 ao1 cap1 e) (ho:OkX e) (he:errL rnS cnS e=0) (h1:e.len=1) :
 ∃x kx b0 off aok capk,e = .cons x kx .nil∧ao1=some ⟨b0,off,none⟩∧OkE x∧OkX kx∧ShE x kx.len∧ShL kx∧ExL w0 aok capk kx∧w0.cell? ⟨b0,off,none⟩=some (ci x.kind)∧w0.cell? ⟨b0,off+1,none⟩=some (ci x.op)∧w0.cell? ⟨b0,off+2,none⟩=some (ct x.mod)∧w0.cell? ⟨b0,off+3,none⟩=some (ct x.name) ∧
  w0.cell? ⟨b0,off+4,none⟩=some (ci x.vt)∧w0.cell? ⟨b0,off+5,none⟩=some (.int .u64 x.vb)∧w0.cell? ⟨b0,off+6,none⟩=some (.slice aok kx.len capk):=by
 cases e with
 | nil=>simp [Exs.len] at h1
 | cons x kx r =>
   cases r with
   | cons a b c=>simp [Exs.len] at h1
   | nil =>
     have hs:=shL_of_err _ he
     rcases h.2.2 with h0 | ⟨b0,off,rfl,hA⟩
     ·simp [Exs.len] at h0
     ·obtain ⟨aok,capk,hk,_,c⟩:=ex_row hA
      exact ⟨x,kx,b0,off,aok,capk,rfl,rfl,ho.1,ho.2.1,hs.1,hs.2.1,hk,c⟩
theorem stmt_w (h:SH) (e:Exs) (bo el:Sts) (n:Nat) (hn:n≤1000000) (hH:errSH rnS h e bo.len el.len=0) (hE:errL rnS cnS e=0) (ho:OkX e) (hB:hasBody h.kind=true→BlkW bo (n+1)) (hL:h.kind=8∨0<el.len→BlkW el (n+1))
 (ao1 ao2 ao3:Option Addr) (cap1 cap2 cap3:Nat) (acc T:Bs) (w0 w:World) (B b:Nat) (ht:F.Tab w0) (hw:PW w0 B b acc w) (h1:ExL w0 ao1 cap1 e) (h2:StL w0 ao2 cap2 bo) (h3:StL w0 ao3 cap3 el)
 (hT:Hidden (acc++stT txS (.cons h e bo el .nil) n=T)) (hl:T.length≤140737488355328) :
 Calls Tryz.prog 129 #[bp b,stV h (.slice ao1 e.len cap1) (.slice ao2 bo.len cap2) (.slice ao3 el.len cap3),ci (n:Int)] w fun e w'=>e = .returned (.tuple #[])∧PWrote w0 B b T w w':=by
 have hf:=(Pz.orE_0 hH).1
 have hf:fitsS h e bo.len el.len=true:=by
  by_cases hc:fitsS h e bo.len el.len=true
  ·exact hc
  ·rw [if_neg hc] at hf;exact absurd hf (by decide)
 clear hH
 have hT:acc++stT txS (.cons h e bo el .nil) n=T:=hT
 obtain ⟨k,name⟩:=h
 unfold fitsS at hf
 simp only at hf hB hL
 by_cases k1:k=1
 ·subst k1
  rw [if_pos (Or.inl rfl),decide_eq_true_eq] at hf
  obtain ⟨x,kx,b0,off,aok,capk,rfl,rfl,o1,o2,o3,o4,hk,c0,c1,c2,c3,c4,c5,c6⟩:=one_ex h1 ho hE hf.1
  exact stmt_1 n hn name acc T w0 w B b ht hw ao2 ao3 bo.len el.len cap2 cap3 x kx b0 off cap1 aok capk o1 o2 o3 o4 hk c0 c1 c2 c3 c4 c5 c6 (by show _=T;rw [←hT];simp [stT,txF,txA_one]) hl
 by_cases k2:k=2
 ·subst k2
  rw [if_pos (Or.inr rfl),decide_eq_true_eq] at hf
  obtain ⟨x,kx,b0,off,aok,capk,rfl,rfl,o1,o2,o3,o4,hk,c0,c1,c2,c3,c4,c5,c6⟩:=one_ex h1 ho hE hf.1
  exact stmt_2 n hn name acc T w0 w B b ht hw ao2 ao3 bo.len el.len cap2 cap3 x kx b0 off cap1 aok capk o1 o2 o3 o4 hk c0 c1 c2 c3 c4 c5 c6 (by show _=T;rw [←hT];simp [stT,txF,txA_one]) hl
 rw [if_neg (by omega)] at hf
 by_cases k3:k=3
 ·subst k3
  rw [if_pos rfl,decide_eq_true_eq] at hf
  obtain ⟨x,kx,b0,off,aok,capk,rfl,rfl,o1,o2,o3,o4,hk,c0,c1,c2,c3,c4,c5,c6⟩:=one_ex h1 ho hE hf.1
  by_cases hz:0<el.len
  ·exact stmt_3b n hn name acc T w0 w B b ht hw ao2 ao3 bo el cap2 cap3 x kx b0 off cap1 aok capk o1 o2 o3 o4 hk c0 c1 c2 c3 c4 c5 c6 (hB rfl) h2 (hL (Or.inr hz)) h3 hz (by show _=T;rw [←hT];simp [stT,txF,txA_one,hz]) hl
  ·exact stmt_3a n hn name acc T w0 w B b ht hw ao2 ao3 bo el cap2 cap3 x kx b0 off cap1 aok capk o1 o2 o3 o4 hk c0 c1 c2 c3 c4 c5 c6 (hB rfl) h2 (by omega) (by show _=T;rw [←hT];simp [stT,txF,txA_one,hz]) hl
 rw [if_neg k3] at hf
 by_cases k4:k=4
 ·subst k4
  rw [if_pos rfl,decide_eq_true_eq] at hf
  obtain ⟨x,kx,b0,off,aok,capk,rfl,rfl,o1,o2,o3,o4,hk,c0,c1,c2,c3,c4,c5,c6⟩:=one_ex h1 ho hE hf.1
  exact stmt_4 n hn name acc T w0 w B b ht hw ao2 ao3 bo el cap2 cap3 x kx b0 off cap1 aok capk o1 o2 o3 o4 hk c0 c1 c2 c3 c4 c5 c6 (hB rfl) h2 (by show _=T;rw [←hT];simp [stT,txF,txA_one]) hl
 rw [if_neg k4] at hf
 by_cases k5:k=5
 ·subst k5
  rw [if_pos rfl,decide_eq_true_eq] at hf
  by_cases hz:e.len=0
  ·have:e = .nil:=by
    cases e with
    | nil=>rfl
    | cons a b c=>simp [Exs.len] at hz
   subst this
   exact stmt_5a n hn name acc T w0 w B b ht hw ao2 ao3 bo el cap2 cap3 ao1 cap1 (by show _=T;rw [←hT];simp [stT,txF,txA_one,Exs.len]) hl
  ·obtain ⟨x,kx,b0,off,aok,capk,rfl,rfl,o1,o2,o3,o4,hk,c0,c1,c2,c3,c4,c5,c6⟩:=one_ex h1 ho hE (by omega)
   exact stmt_5b n hn name acc T w0 w B b ht hw ao2 ao3 bo el cap2 cap3 x kx b0 off cap1 aok capk o1 o2 o3 o4 hk c0 c1 c2 c3 c4 c5 c6 (by show _=T;rw [←hT];simp [stT,txF,txA_one,Exs.len]) hl
 rw [if_neg k5] at hf
 by_cases k6:k=6
 ·subst k6
  rw [if_pos (Or.inl rfl),decide_eq_true_eq] at hf
  obtain ⟨x,kx,b0,off,aok,capk,rfl,rfl,o1,o2,o3,o4,hk,c0,c1,c2,c3,c4,c5,c6⟩:=one_ex h1 ho hE hf.1
  exact stmt_6 n hn name acc T w0 w B b ht hw ao2 ao3 bo.len el.len cap2 cap3 x kx b0 off cap1 aok capk o1 o2 o3 o4 hk c0 c1 c2 c3 c4 c5 c6 (by show _=T;rw [←hT];simp [stT,txF,txA_one]) hl
 by_cases k7:k=7
 ·subst k7
  rw [if_pos (Or.inr rfl),decide_eq_true_eq] at hf
  obtain ⟨x,kx,b0,off,aok,capk,rfl,rfl,o1,o2,o3,o4,hk,c0,c1,c2,c3,c4,c5,c6⟩:=one_ex h1 ho hE hf.1
  exact stmt_7 n hn name acc T w0 w B b ht hw ao2 ao3 bo.len el.len cap2 cap3 x kx b0 off cap1 aok capk o1 o2 o3 o4 hk c0 c1 c2 c3 c4 c5 c6 (by show _=T;rw [←hT];simp [stT,txF,txA_one]) hl
 rw [if_neg (by omega)] at hf
 by_cases k8:k=8
 ·subst k8
  rw [if_pos rfl,decide_eq_true_eq] at hf
  have:e = .nil:=by
   cases e with
   | nil=>rfl
   | cons a b c=>simp [Exs.len] at hf
  subst this
  exact stmt_8 n hn name acc T w0 w B b ht hw ao2 ao3 bo el cap2 cap3 ao1 cap1 (hB rfl) h2 (hL (Or.inl rfl)) h3 (by show _=T;rw [←hT];simp [stT,txF,txA_one]) hl
 rw [if_neg k8] at hf
 by_cases k9:k=9
 ·subst k9
  rw [if_pos rfl,decide_eq_true_eq] at hf
  obtain ⟨x,kx,b0,off,aok,capk,rfl,rfl,o1,o2,o3,o4,hk,c0,c1,c2,c3,c4,c5,c6⟩:=one_ex h1 ho hE hf.1
  exact stmt_9 n hn name acc T w0 w B b ht hw ao2 ao3 bo.len el.len cap2 cap3 x kx b0 off cap1 aok capk o1 o2 o3 o4 hk c0 c1 c2 c3 c4 c5 c6 (by show _=T;rw [←hT];simp [stT,txF,txA_one]) hl
 rw [if_neg k9] at hf
 cases hf
def BlkC (k:Sts):Prop:=∀(n:Nat) (a:Int),n≤32→errS rnS cnS k=0→OkS k→dS k (n:Int) a≤32→BlkW k n
theorem stT_one (h:SH) (e:Exs) (b l r:Sts) (n:Nat):stT txS (.cons h e b l r) n=stT txS (.cons h e b l .nil) n++stT txS r n:=by
 conv=>lhs;rw [stT]
 conv=>rhs;rw [stT]
 rw [show stT txS .nil n=[] from rfl,List.append_nil]
theorem blk_step (k:Sts) (ih:∀k':Sts,k'.size<k.size→BlkC k'):BlkC k:=by
 intro n a0 hn he0 ho0 hd0 z hz ao cap w0 w B b acc T hk ht hw hT hl
 subst hz
 have hrest:=hk.rest
 obtain ⟨hcap,hmax,_⟩:=hk
 have hlen:k.len≤9223372036854775807:=by unfold maxLen at hmax;omega
 go_enter Tryz.func82,Tryz.ntmps82
 go_wp2_with fail
 go_loopg [10] k.len (fun g iv wr=>∃(i:Nat) (r:Sts) (ac:Bs) (aa:Int),iv=ci (i:Int)∧i+r.len=k.len∧r.size≤k.size∧StR w0 ao i r∧errS rnS cnS r=0∧OkS r∧dS r (n:Int) aa≤32∧ac++stT txS r n=T∧g=r.len∧PW w0 B b ac wr∧Fr (BS B b w) w wr)
 case atStart=>exact ⟨0,k,acc,a0,rfl,by omega,Nat.le_refl _,hrest,he0,ho0,hd0,hT,rfl,hw,Fr.refl _ _⟩
 case round =>
  obtain ⟨i,r,ac,aa,rfl,hlen2,hsize,hrow,her,hor,hdr,hac,hgk,hp,hfr⟩:=hrel
  have hgkH:Hidden (gk=r.len):=hgk
  have hacH:Hidden (ac++stT txS r n=T):=hac
  have hlenH:Hidden (i+r.len=k.len):=hlen2
  have herH:Hidden (errS rnS cnS r=0):=her
  clear hgk hac hlen2 hrest her he0 hT
  cases r with
  | nil =>
    have hi:i=k.len:=hlenH
    subst hi
    have:ac=T:=by have:=(show _=T from hacH);simpa [stT] using this
    subst this
    go_wp2_with fail
    go_end0
    exact ⟨rfl,hp,hfr⟩
  | cons h' e' b' l' r' =>
    have hil:i<k.len:=by have:i+(r'.len+1)=k.len:=hlenH;omega
    obtain ⟨b0,off,ao1,cap1,ao2,cap2,ao3,cap3,rfl,hL1,hL2,hL3,hrow2,d0,d1,d2,d3,d4⟩:=hrow.next
    have d0:=hp.fr.cellN d0
    have d1:=hp.fr.cellN d1
    have d2:=hp.fr.cellN d2
    have d3:=hp.fr.cellN d3
    have d4:=hp.fr.cellN d4
    have f2:=Fr.alloc (fun _=>False) wr (.cells #[ci h'.kind,ct h'.name,.slice ao1 e'.len cap1,.slice ao2 b'.len cap2,.slice ao3 l'.len cap3] 91)
    simp only [Sts.size] at hsize
    have her2:errS rnS cnS (.cons h' e' b' l' r')=0:=herH
    rw [errS] at her2
    obtain ⟨a1,a2⟩:=Pz.orE_0 her2
    obtain ⟨a3,a4⟩:=Pz.orE_0 a1
    obtain ⟨a5,a6⟩:=Pz.orE_0 a4
    obtain ⟨a7,a8⟩:=Pz.orE_0 a6
    obtain ⟨_,_,s1,s2,s3,s4⟩:=hor
    obtain ⟨q1,q2,q3,aa',q4⟩:=Pz.dS_cons (by omega) (by omega) hdr
    have hB:hasBody h'.kind=true→BlkW b' (n+1):=fun hb=>by
     have:=q2 (Or.inl hb)
     have:=Pz.dS_acc b' ((n:Int)+1) ((n:Int)+1)
     exact ih b' (by omega) (n+1) ((n:Int)+1) (by omega) a7 s2 (by simpa using q2 (Or.inl hb))
    have hL:h'.kind=8∨0<l'.len→BlkW l' (n+1):=fun hb=>by
     have:=q3 hb
     have:=Pz.dS_acc l' ((n:Int)+1) ((n:Int)+1)
     exact ih l' (by omega) (n+1) ((n:Int)+1) (by omega) a8 s3 (by simpa using q3 hb)
    obtain ⟨T2,hT2'⟩:∃T2,ac++stT txS (.cons h' e' b' l' .nil) n=T2:=⟨_,rfl⟩
    have hT2:Hidden (ac++stT txS (.cons h' e' b' l' .nil) n=T2):=hT2'
    have hT3:Hidden (T2++stT txS r' n=T):=by
     show _=T
     rw [←(show _=T from hacH),stT_one,←hT2',List.append_assoc]
    clear hT2' hacH her2 herH a1 a4 a6
    have ke:=stmt_w h' e' b' l' n (by omega) a3 a5 s1 hB hL ao1 ao2 ao3 cap1 cap2 cap3 ac T2 w0 _ B b ht (hp.quiet f2) hL1 hL2 hL3 hT2 (app_le (show _=T from hT3) hl)
    clear hT2 a3 a5 q1 q2 q3 hdr
    go_wp2_with fail
    go_at_call 129
    refine ke.mono ?_
    rintro e W3 ⟨rfl,p3,g3⟩
    go_wp2_with fail
    go_roundg r'.len
    case measure =>
     have:gk=r'.len+1:=hgkH
     omega
    case rel =>
     refine ⟨i+1,r',_,aa',by go_num,?_,by omega,hrow2,a2,s4,q4,hT3,rfl,p3,bs_trans hfr (bs_then f2 g3)⟩
     have:i+(r'.len+1)=k.len:=hlenH
     omega
theorem blk_any (k:Sts):BlkC k:=by
 have:∀(n:Nat) (k:Sts),k.size<n→BlkC k:=by
  intro n
  induction n with
  | zero=>intro k hk;omega
  | succ n ih=>intro k hk;exact blk_step k (fun k' hk'=>ih k' (by omega))
 exact this (k.size+1) k (by omega)
end
section
open Go.RowKit Te
theorem step_row {α:Type} {R:World→α→List Value→Prop} {w:World} {ops:Array Oper} {o:Oper} {a:Act} {K:Act→World→Prop} {Q:Exit→Act→World→Prop} {E:Prop} (hgd:o.guard=none) (s x:Operand) (ty e:TypeId) (z:Value) (size bytes:Nat)
 (hty:Tryz.prog.underlying ty=some (.slice e)) (hinfo:(Tryz.prog.info? e).map (fun i=>(i.zero,i.size,i.bytes))=some (some z,size,bytes)) (hzs:z.cells.size=size) (hsz:0<size)
 (ho:o.op = .call { callee:=.builtin .append,args:=#[s,x],argTypes:=#[ty,ty] }) (B:Nat) (v:Value) (l:List α) (y:α) (news:List Value) (ad:Addr) (c:Nat)
 (hs:a.eval s=v) (hr:Row R e size w B v l) (hx:a.eval x = .slice (some ad) 1 c) (hl:news.length=size) (hc:∀(j:Nat) (u:Value),news[j]?=some u→w.cell? (ad.add j)=some u) (h1:∀u∈news,u.oneCell'=true)
 (hR:∀w',Fr (fun k=>k<B∨v.ownBlock=some k) w w'→R w' y news)
 (hn:l.length≤4000) (hb:bytes≤1000) (hB:B≤w.heap.size)
 (h:∀v' w',Row R e size w' B v' (l++[y])→Fr (fun k=>v.ownBlock=some k) w w'→K (a.put o.dst v') w'):if Region.wanted o (yielded ops a.tmps)=true then Oper.wp Tryz.prog o a w K Q else E:=by
 have hw:Region.wanted o (yielded ops a.tmps)=true:=by simp [Region.wanted,hgd]
 rw [if_pos hw]
 obtain ⟨cells,hr1,hr2⟩:=hr
 cases hi:Tryz.prog.info? e with
 | none=>rw [hi] at hinfo;cases hinfo
 | some i =>
   rw [hi] at hinfo
   simp only [Option.map_some,Option.some.injEq,Prod.mk.injEq] at hinfo
   have hbb:(l.length+1)*bytes≤140737488355328:=Nat.le_trans (Nat.mul_le_mul (show l.length+1≤4001 by omega) hb) (by decide)
   obtain ⟨v',w',hr,h2,h3,_,h5⟩:=run_append_own_at (P:=Tryz.prog) w B ty o.type e i z size bytes hty hi hinfo.1 hinfo.2.1 hinfo.2.2 hzs hsz v l.length cells hr1 ad 1 c news (by omega) hc h1 (by simp only [maxLen];omega) hbb hB
   have hk:=h v' w' ⟨cells++news,by rw [List.length_append];exact h2,fun w'' hf=>by
    have hF:Fr (fun k=>k<B∨v.ownBlock=some k) w w'':=by
     refine ((Fr.grown h3).mono (fun k _ hk=>Or.inr hk.symm)).trans hf (fun k hk hs=>?_)
     rcases hs with hs | hs
     ·exact Or.inl hs
     ·rcases h5 with h5 | h5
      ·exact Or.inr (h5 ▸ hs)
      ·rw [h5] at hs
       simp only [Option.some.injEq] at hs
       omega
    exact (hr2 w'' hF).snoc hl (hR w'' hF)⟩ ((Fr.grown h3).mono (fun k _ hk=>hk.symm))
   unfold Oper.wp execOp
   simp only [ho,resolve,invoke,builtin,Sem.run_bind,Sem.run_pure,Result.andThen_ok,List.map_toArray,List.map_cons,List.map_nil,hs,hx,hr]
   exact hk
def pT (p:Pa):Bs:=p.name++tyT p.type
theorem join_pa:∀(l:List Pa),Lib.join (l.map pT) [44,32]=paT l
 | []=>rfl
 | [p]=>by simp [Lib.join_one,paT,pT]
 | p::q::r=>by
   have ih:=join_pa (q::r)
   rw [List.map_cons,List.map_cons,Lib.join_cons] at *
   rw [paT,←ih]
   simp [Lib.joinTail,pT]
theorem info_str:(Tryz.prog.info? 9).map (fun i=>(i.zero,i.size,i.bytes))=some (some (.string ⟨#[]⟩),1,16):=by kernel_rfl
theorem params_w (l:List Pa) (ao:Option Addr) (cap:Nat) (w:World) (hp:PaL w ao cap l) (hty:∀p∈l,p.type=0∨p.type=1∨p.type=2∨p.type=3) (hnm:∀p∈l,p.name.length≤1000000) (h8:l.length≤8) (T:Bs) (hT:Hidden (paT l=T)) (hl:T.length≤140737488355328) :
 Calls Tryz.prog 81 #[.slice ao l.length cap] w fun e w'=>e = .returned (ct T)∧Fr (fun _=>False) w w':=by
 obtain ⟨hcap,hmax,hcells⟩:=hp
 have m1:cap≤9223372036854775807:=by unfold maxLen at hmax;omega
 go_enter Tryz.func81,Tryz.ntmps81
 go_wp2_with fail
 go_loopg [3,8] l.length (fun g lv iv wr=>∃(i:Nat) (v:Value),v=lv∧iv=ci (i:Int)∧i≤l.length∧Row RT 9 1 wr w.heap.size v ((l.take i).map pT)∧g=l.length - i∧Fr (fun _=>False) w wr)
 case atStart=>exact ⟨0,_,rfl,rfl,by omega,Row.nil _ _ _ _ _,rfl,Fr.refl _ _⟩
 case round =>
  obtain ⟨i,v,rfl,rfl,hi,hrow,hgk,hfr⟩:=hrel
  have hgkH:Hidden (gk=l.length - i):=hgk
  have hrowH:Hidden (Row RT 9 1 wr w.heap.size v ((l.take i).map pT)):=hrow
  clear hgk hrow
  by_cases hil:i<l.length
  ·obtain ⟨p,hpi⟩:∃p,l[i]?=some p:=⟨l[i],List.getElem?_eq_getElem hil⟩
   have hpm:p∈l:=List.mem_of_getElem? hpi
   have ht1:=hty p hpm
   have hn1:=hnm p hpm
   rcases hcells with h0 | ⟨b,off,rfl,hc⟩
   ·rw [h0] at hil;simp at hil
   have d0:wr.cell? ⟨b,off+i*2,none⟩=some (ct p.name):=hfr.cellN (hc i p hpi 0 _ rfl)
   have d1:wr.cell? ⟨b,off+i*2+1,none⟩=some (ci p.type):=hfr.cellN (hc i p hpi 1 _ rfl)
   have hleni:((l.take i).map pT).length=i:=by rw [List.length_map,List.length_take];omega
   obtain ⟨aor,capr,hv,hl1,hl2⟩:=Row.shape (show Row RT 9 1 wr w.heap.size v _ from hrowH)
   rw [hleni] at hv hl1
   subst hv
   have hown:=Row.own (show Row RT 9 1 wr w.heap.size _ _ from hrowH)
   have f0:=Fr.alloc (fun _=>False) wr (.cells #[ct p.name,ci p.type] 89)
   have hbx:Hidden ((wr.alloc (.cells #[ct p.name,ci p.type] 89)).heap[wr.heap.size]?=some (.cells #[ct p.name,ci p.type] 89 (0,0))):=alloc_new _ _
   have fd:=Fr.drew (fun _=>False) (wr.alloc (.cells #[ct p.name,ci p.type] 89))
   have e0:(wr.alloc (.cells #[ct p.name,ci p.type] 89)).cell? ⟨wr.heap.size,0,none⟩=some (ct p.name):=cell_of_row _ _ 0 _ _ _ hbx
   have e1:(wr.alloc (.cells #[ct p.name,ci p.type] 89)).cell? ⟨wr.heap.size,1,none⟩=some (ci p.type):=cell_of_row _ _ 1 _ _ _ hbx
   have hnew:Hidden (∀j,(((wr.alloc (.cells #[ct p.name,ci p.type] 89)).alloc (.cells #[ct (pT p)] 9)).drew).cell? ⟨wr.heap.size+1,j,none⟩=(#[ct (pT p)]:Array Value)[j]?):=fun j=>by
    have e:=cell_of_row ((wr.alloc (.cells #[ct p.name,ci p.type] 89)).alloc (.cells #[ct (pT p)] 9)) (wr.alloc (.cells #[ct p.name,ci p.type] 89)).heap.size j _ _ _ (alloc_new _ _)
    rw [show (wr.alloc (.cells #[ct p.name,ci p.type] 89)).heap.size=wr.heap.size+1 by simp] at e
    exact e
   have htl:(tyT p.type).length≤7:=Pz.tyT_ln p.type
   have hadd:∀w,(Op.stringOp .add ⟨p.name.toArray⟩ ⟨(tyT p.type).toArray⟩).run Tryz.prog w = .ok (ct (pT p)) w:=fun w=>by
    rw [run_string_add_sum w _ _ (by simp [ByteArray.size];omega)]
    exact congrArg (fun x=>Result.ok (Value.string x) w) (N.append_str p.name (tyT p.type))
   have hsl:Hidden (((l.take i).map pT).length≤4000):=by show _≤_;rw [List.length_map,List.length_take];omega
   have hfs:=hfr.size
   have hpiH:Hidden (l[i]?=some p):=hpi
   clear hc hpi hleni
   go_wp2_with fail
   go_region_held3 (fun w'=>w'.cell? ⟨wr.heap.size,0,none⟩=some (ct p.name)∧w'.cell? ⟨wr.heap.size,1,none⟩=some (ci p.type)) (first | (refine ⟨by assumption,by assumption⟩) | go_keep) (first
    | (go_at_call 80;refine (type_is p.type ht1 _).mono ?_;rintro e w1 ⟨rfl,rfl⟩)
    | (refine step_row (R:=RT) rfl _ _ 22 9 _ 1 16 Tryz.underlying22 info_str rfl (by decide) rfl w.heap.size (.slice aor i capr) ((l.take i).map pT) (pT p) ([ct (pT p)]) ⟨wr.heap.size+1,0,none⟩ 1 rfl ?c0 rfl rfl ?c1 ?c2 ?c3 hsl (by decide) ?c4 ?_
       case c0=>go_must (exact Row.keep hrowH ((f0.same (Fr.alloc _ _ _)).same (Fr.drew _ _)) (fun _ f=>f.elim))
       case c1=>go_must (exact fun j u hu=>by rw [add0];exact (hnew j).trans (by simpa using hu))
       case c2=>go_must (exact fun u hu=>by simp only [List.mem_cons,List.not_mem_nil,or_false] at hu;subst hu;rfl)
       case c3=>go_must (exact fun w' hf=>rfl)
       case c4=>go_must (simp;omega)
       intro v2 W2 hrow2 f2
       go_must (have hb2:=f2.heap ((((Fr.alloc (fun _=>False) _ _).same (Fr.drew _ _))).heap hbx (fun f=>f)) (fun hk=>by have:=(hown _ hk).2;omega))
       have q0:W2.cell? ⟨wr.heap.size,0,none⟩=some (ct p.name):=cell_of_row _ _ 0 _ _ _ hb2
       have q1:W2.cell? ⟨wr.heap.size,1,none⟩=some (ci p.type):=cell_of_row _ _ 1 _ _ _ hb2))
   go_wp2_with fail
   go_roundg (l.length - (i+1))
   case measure =>
    have:gk=l.length - i:=hgkH
    omega
   case rel =>
    refine ⟨i+1,_,rfl,by go_num,by omega,?_,rfl,?_⟩
    ·rw [List.take_add_one,(show l[i]?=some p from hpiH)]
     simpa using hrow2
    ·exact ((hfr.same f0).same ((Fr.alloc _ _ _).same (Fr.drew _ _))).over f2 (fun k hk=>by have:=(hown k hk).1;omega)
  ·obtain rfl:i=l.length:=by omega
   rw [Hidden,List.take_length] at hrowH
   by_cases hl0:l=[]
   ·subst hl0
    obtain ⟨aor,capr,hv,hl1,hl2⟩:=Row.shape hrowH
    rw [show (([]:List Pa).map pT).length=0 from rfl] at hv
    subst hv
    clear hrowH
    have kj:=Tryz.strings_Join_none aor capr ⟨#[44,32]⟩ wr
    have:T=[]:=(show paT []=T from hT).symm
    subst this
    go_wp2_with fail
    go_at_call 128
    refine kj.mono ?_
    rintro e w2 ⟨rfl,rfl⟩
    go_wp2_with fail
    go_ret
    exact ⟨rfl,hfr⟩
   ·obtain ⟨aor,capr,hv,hN⟩:=Row.held hrowH
    rw [List.length_map] at hv
    subst hv
    obtain ⟨g1,g2,g3⟩:=hN wr (Fr.refl _ _)
    have hne:l.map pT≠[]:=by simpa using hl0
    rcases g3 with g3 | ⟨bk,off,rfl,hc⟩
    ·exact absurd g3 hne
    have hcl:∀(j:Nat) x,((l.map pT).map fun x=>(⟨x.toArray⟩:ByteArray))[j]?=some x→wr.cell? ⟨bk,off+j,none⟩=some (.string x):=by
     intro j x hx
     rw [List.getElem?_map] at hx
     cases hj:(l.map pT)[j]? with
     | none=>rw [hj] at hx;cases hx
     | some y =>
       rw [hj] at hx
       obtain rfl:=Option.some.inj hx
       obtain ⟨c,hc1,hc2,hc3⟩:=hc j y hj
       obtain rfl:c=[ct y]:=hc1
       have:=hc3 0 _ rfl
       simpa using this
    have hbk:bk<wr.heap.size:=by
     obtain ⟨y,hy⟩:∃y,(l.map pT)[0]?=some y:=by
      cases hh:l.map pT with
      | nil=>exact absurd hh hne
      | cons y r=>exact ⟨y,rfl⟩
     exact World.block_lt_of_cell? wr _ (hcl 0 ⟨y.toArray⟩ (by rw [List.getElem?_map,hy];rfl))
    have ex:((l.map pT).map fun x=>(⟨x.toArray⟩:ByteArray)).map (·.data.toList)=l.map pT:=by rw [List.map_map];simp [Function.comp_def]
    have el:((l.map pT).map fun x=>(⟨x.toArray⟩:ByteArray)).length=l.length:=by simp
    have ej:Lib.join (((l.map pT).map fun x=>(⟨x.toArray⟩:ByteArray)).map (·.data.toList)) (⟨#[44,32]⟩:ByteArray).data.toList=T:=by
     rw [ex,←(show paT l=T from hT),←join_pa l]
    have kj:=Tryz.strings_Join bk off capr ((l.map pT).map fun x=>(⟨x.toArray⟩:ByteArray)) ⟨#[44,32]⟩ wr hcl hbk (by rw [el];omega) (by rw [el];rw [List.length_map] at g1;exact g1) (by rw [ej];exact hl)
    rw [ej,el] at kj
    clear ej el ex hcl hc hrowH hN g1 hT
    go_wp2_with fail
    go_at_call 128
    refine kj.mono ?_
    rintro e w2 ⟨rfl,b2⟩
    go_wp2_with fail
    go_ret
    exact ⟨rfl,hfr.same ⟨b2.os,b2.output,b2.size,fun k hk _=>b2.block k hk⟩⟩
end
section
open Go.RowKit Te
theorem line_zero (l:List Bs) (acc T:Bs) (w0 w:World) (B b:Nat) (hw:PW w0 B b acc w) (hl9:l.length≤1000000) (hT:acc++l.flatten++[10]=T) (hl:T.length≤140737488355328) :
 Calls Tryz.prog 37 #[bp b,ci 0,.slice (some ⟨w.heap.size,0,none⟩) l.length l.length] (w.alloc (.cells (l.map ct).toArray 9)) fun e w'=>e = .returned (.tuple #[])∧PWrote w0 B b T w w' :=
 line_new2 0 l acc T w0 w B b hw (by decide) hl9 (by rw [←hT];simp [Te.pad]) hl
abbrev deO (k:Int) (ex:Bool) (name:Bs) (ty:Int) (pv ev bv:Value):Obj:=.cells #[ci k,.bool ex,ct name,ci ty,pv,ev,bv] 51 (0,0)
theorem decl_1t (name:Bs) (ty:Int) (hty:ty=0∨ty=1∨ty=2∨ty=3) (acc T:Bs) (w0 w:World) (B b:Nat) (ht:F.Tab w0) (hw:PW w0 B b acc w) (ao1 ao3:Option Addr) (n1 n3 cap1 cap3:Nat) (x:EH) (kx:Exs) (b0 off cap2:Nat) (aok:Option Addr) (capk:Nat) (ho:OkE x) (hx:OkX kx) (hs:ShE x kx.len) (hsl:ShL kx)
 (hk:ExL w0 aok capk kx) (h0:w0.cell? ⟨b0,off,none⟩=some (ci x.kind)) (h1:w0.cell? ⟨b0,off+1,none⟩=some (ci x.op)) (h2:w0.cell? ⟨b0,off+2,none⟩=some (ct x.mod)) (h3:w0.cell? ⟨b0,off+3,none⟩=some (ct x.name)) (h4:w0.cell? ⟨b0,off+4,none⟩=some (ci x.vt)) (h5:w0.cell? ⟨b0,off+5,none⟩=some (.int .u64 x.vb)) (h6:w0.cell? ⟨b0,off+6,none⟩=some (.slice aok kx.len capk))
 (hT:Hidden (acc++([101,120,112,111,114,116,32]++[99,111,110,115,116,32]++name++tyT ty++[32,61,32]++txA txS x kx 1++[59,10])=T)) (hl:T.length≤140737488355328) :
 Calls Tryz.prog 38 #[bp b,.agg #[ci 1,.bool true,ct name,ci ty,.slice ao1 n1 cap1,.slice (some ⟨b0,off,none⟩) 1 cap2,.slice ao3 n3 cap3]] w fun e w'=>e = .returned (.tuple #[])∧PW w0 B b T w':=by
 have f0:=Fr.alloc (fun _=>False) w (deO 1 true name ty (.slice ao1 n1 cap1) (.slice (some ⟨b0,off,none⟩) 1 cap2) (.slice ao3 n3 cap3))
 have hbx:Hidden ((w.alloc (deO 1 true name ty (.slice ao1 n1 cap1) (.slice (some ⟨b0,off,none⟩) 1 cap2) (.slice ao3 n3 cap3))).heap[w.heap.size]?=some (deO 1 true name ty (.slice ao1 n1 cap1) (.slice (some ⟨b0,off,none⟩) 1 cap2) (.slice ao3 n3 cap3))):=alloc_new _ _
 have g0:=hw.fr.same f0
 have hne:=ne_pbld hw.bld
 have hlen:(txA txS x kx 1).length≤140737488355328:=by
  have:=congrArg List.length (show _=T from hT)
  simp only [List.length_append] at this
  omega
 have ke:=fun (w1:World) (f1:Fr (fun _=>False) (w.alloc (deO 1 true name ty (.slice ao1 n1 cap1) (.slice (some ⟨b0,off,none⟩) 1 cap2) (.slice ao3 n3 cap3))) w1)=>exprText_any x kx (exV x (.slice aok kx.len capk)) w1 ho hx hs hsl ⟨aok,capk,rfl,hk.keep (g0.same f1)⟩ (tab_fr ht (g0.same f1)) hlen
 generalize txA txS x kx 1=E at ke hT hlen
 have kt:=fun (w1:World)=>type_is ty hty w1
 generalize hty9:tyT ty=Y at kt hT
 have kl:=fun (w1:World) (f1:Fr (fun _=>False) (w.alloc (deO 1 true name ty (.slice ao1 n1 cap1) (.slice (some ⟨b0,off,none⟩) 1 cap2) (.slice ao3 n3 cap3))) w1)=>line_zero [[101,120,112,111,114,116,32],[99,111,110,115,116,32],name,Y,[32,61,32],E,[59]] acc T w0 w1 B b (hw.quiet (f0.same f1)) (by simp) (by rw [←(show _=T from hT)];simp) hl
 have hd0:Fr (fun _=>False) (w.alloc (deO 1 true name ty (.slice ao1 n1 cap1) (.slice (some ⟨b0,off,none⟩) 1 cap2) (.slice ao3 n3 cap3))) (w.alloc (deO 1 true name ty (.slice ao1 n1 cap1) (.slice (some ⟨b0,off,none⟩) 1 cap2) (.slice ao3 n3 cap3))).drew:=Fr.drew _ _
 obtain ⟨c0,c1,c2,c3,c4,c5,c6⟩:=ex_box hbx
 have d0:=g0.cellN h0
 have d1:=g0.cellN h1
 have d2:=g0.cellN h2
 have d3:=g0.cellN h3
 have d4:=g0.cellN h4
 have d5:=g0.cellN h5
 have d6:=g0.cellN h6
 clear hT hty9
 go_enter Tryz.func38,Tryz.ntmps38
 go_wp2_with fail
 go_region_held3 (fun w'=>w'.cell? ⟨w.heap.size,2,none⟩=some (ct name)∧w'.cell? ⟨w.heap.size,3,none⟩=some (ci ty)∧w'.cell? ⟨w.heap.size,5,none⟩=some (.slice (some ⟨b0,off,none⟩) 1 cap2)∧w'.cell? ⟨b0,off,none⟩=some (ci x.kind)∧w'.cell? ⟨b0,off+1,none⟩=some (ci x.op)∧w'.cell? ⟨b0,off+2,none⟩=some (ct x.mod)∧w'.cell? ⟨b0,off+3,none⟩=some (ct x.name)∧w'.cell? ⟨b0,off+4,none⟩=some (ci x.vt)∧w'.cell? ⟨b0,off+5,none⟩=some (.int .u64 x.vb)∧w'.cell? ⟨b0,off+6,none⟩=some (.slice aok kx.len capk)) (first | (refine ⟨by assumption,by assumption,by assumption,by assumption,by assumption,by assumption,by assumption,by assumption,by assumption,by assumption⟩) | go_keep) (first
  | (go_at_call 80;refine (kt _).mono ?_;rintro e wt ⟨rfl,hwt⟩;have hwt:=hwt.symm;subst hwt)
  | (go_at_call 48;refine (ke _ hd0).mono ?_;rintro e wa ⟨rfl,fa⟩;have ga:=hd0.same fa;have q2:=ga.cellN c2;have q3:=ga.cellN c3;have q5:=ga.cellN c5;have y0:=ga.cellN d0;have y1:=ga.cellN d1;have y2:=ga.cellN d2;have y3:=ga.cellN d3;have y4:=ga.cellN d4;have y5:=ga.cellN d5;have y6:=ga.cellN d6)
  | (go_at_call 37;refine (kl wa (hd0.same fa)).mono ?_;rintro e wz ⟨rfl,p2,g2⟩;obtain ⟨e0',e1',e2',e3',e4',e5',e6'⟩:=ex_box (bs_keep g2 ((hd0.same fa).heap hbx (fun f=>f)) hne (by decide));have z0:=p2.fr.cellN h0;have z1:=p2.fr.cellN h1;have z2:=p2.fr.cellN h2;have z3:=p2.fr.cellN h3;have z4:=p2.fr.cellN h4;have z5:=p2.fr.cellN h5;have z6:=p2.fr.cellN h6))
 all_goals
  go_wp2_with fail
  go_end0
  exact ⟨rfl,p2⟩
theorem decl_1f (name:Bs) (ty:Int) (hty:ty=0∨ty=1∨ty=2∨ty=3) (acc T:Bs) (w0 w:World) (B b:Nat) (ht:F.Tab w0) (hw:PW w0 B b acc w) (ao1 ao3:Option Addr) (n1 n3 cap1 cap3:Nat) (x:EH) (kx:Exs) (b0 off cap2:Nat) (aok:Option Addr) (capk:Nat) (ho:OkE x) (hx:OkX kx) (hs:ShE x kx.len) (hsl:ShL kx)
 (hk:ExL w0 aok capk kx) (h0:w0.cell? ⟨b0,off,none⟩=some (ci x.kind)) (h1:w0.cell? ⟨b0,off+1,none⟩=some (ci x.op)) (h2:w0.cell? ⟨b0,off+2,none⟩=some (ct x.mod)) (h3:w0.cell? ⟨b0,off+3,none⟩=some (ct x.name)) (h4:w0.cell? ⟨b0,off+4,none⟩=some (ci x.vt)) (h5:w0.cell? ⟨b0,off+5,none⟩=some (.int .u64 x.vb)) (h6:w0.cell? ⟨b0,off+6,none⟩=some (.slice aok kx.len capk))
 (hT:Hidden (acc++([99,111,110,115,116,32]++name++tyT ty++[32,61,32]++txA txS x kx 1++[59,10])=T)) (hl:T.length≤140737488355328) :
 Calls Tryz.prog 38 #[bp b,.agg #[ci 1,.bool false,ct name,ci ty,.slice ao1 n1 cap1,.slice (some ⟨b0,off,none⟩) 1 cap2,.slice ao3 n3 cap3]] w fun e w'=>e = .returned (.tuple #[])∧PW w0 B b T w':=by
 have f0:=Fr.alloc (fun _=>False) w (deO 1 false name ty (.slice ao1 n1 cap1) (.slice (some ⟨b0,off,none⟩) 1 cap2) (.slice ao3 n3 cap3))
 have hbx:Hidden ((w.alloc (deO 1 false name ty (.slice ao1 n1 cap1) (.slice (some ⟨b0,off,none⟩) 1 cap2) (.slice ao3 n3 cap3))).heap[w.heap.size]?=some (deO 1 false name ty (.slice ao1 n1 cap1) (.slice (some ⟨b0,off,none⟩) 1 cap2) (.slice ao3 n3 cap3))):=alloc_new _ _
 have g0:=hw.fr.same f0
 have hne:=ne_pbld hw.bld
 have hlen:(txA txS x kx 1).length≤140737488355328:=by
  have:=congrArg List.length (show _=T from hT)
  simp only [List.length_append] at this
  omega
 have ke:=fun (w1:World) (f1:Fr (fun _=>False) (w.alloc (deO 1 false name ty (.slice ao1 n1 cap1) (.slice (some ⟨b0,off,none⟩) 1 cap2) (.slice ao3 n3 cap3))) w1)=>exprText_any x kx (exV x (.slice aok kx.len capk)) w1 ho hx hs hsl ⟨aok,capk,rfl,hk.keep (g0.same f1)⟩ (tab_fr ht (g0.same f1)) hlen
 generalize txA txS x kx 1=E at ke hT hlen
 have kt:=fun (w1:World)=>type_is ty hty w1
 generalize hty9:tyT ty=Y at kt hT
 have kl:=fun (w1:World) (f1:Fr (fun _=>False) (w.alloc (deO 1 false name ty (.slice ao1 n1 cap1) (.slice (some ⟨b0,off,none⟩) 1 cap2) (.slice ao3 n3 cap3))) w1)=>line_zero [[],[99,111,110,115,116,32],name,Y,[32,61,32],E,[59]] acc T w0 w1 B b (hw.quiet (f0.same f1)) (by simp) (by rw [←(show _=T from hT)];simp) hl
 have hd0:Fr (fun _=>False) (w.alloc (deO 1 false name ty (.slice ao1 n1 cap1) (.slice (some ⟨b0,off,none⟩) 1 cap2) (.slice ao3 n3 cap3))) (w.alloc (deO 1 false name ty (.slice ao1 n1 cap1) (.slice (some ⟨b0,off,none⟩) 1 cap2) (.slice ao3 n3 cap3))).drew:=Fr.drew _ _
 obtain ⟨c0,c1,c2,c3,c4,c5,c6⟩:=ex_box hbx
 have d0:=g0.cellN h0
 have d1:=g0.cellN h1
 have d2:=g0.cellN h2
 have d3:=g0.cellN h3
 have d4:=g0.cellN h4
 have d5:=g0.cellN h5
 have d6:=g0.cellN h6
 clear hT hty9
 go_enter Tryz.func38,Tryz.ntmps38
 go_wp2_with fail
 go_region_held3 (fun w'=>w'.cell? ⟨w.heap.size,2,none⟩=some (ct name)∧w'.cell? ⟨w.heap.size,3,none⟩=some (ci ty)∧w'.cell? ⟨w.heap.size,5,none⟩=some (.slice (some ⟨b0,off,none⟩) 1 cap2)∧w'.cell? ⟨b0,off,none⟩=some (ci x.kind)∧w'.cell? ⟨b0,off+1,none⟩=some (ci x.op)∧w'.cell? ⟨b0,off+2,none⟩=some (ct x.mod)∧w'.cell? ⟨b0,off+3,none⟩=some (ct x.name)∧w'.cell? ⟨b0,off+4,none⟩=some (ci x.vt)∧w'.cell? ⟨b0,off+5,none⟩=some (.int .u64 x.vb)∧w'.cell? ⟨b0,off+6,none⟩=some (.slice aok kx.len capk)) (first | (refine ⟨by assumption,by assumption,by assumption,by assumption,by assumption,by assumption,by assumption,by assumption,by assumption,by assumption⟩) | go_keep) (first
  | (go_at_call 80;refine (kt _).mono ?_;rintro e wt ⟨rfl,hwt⟩;have hwt:=hwt.symm;subst hwt)
  | (go_at_call 48;refine (ke _ hd0).mono ?_;rintro e wa ⟨rfl,fa⟩;have ga:=hd0.same fa;have q2:=ga.cellN c2;have q3:=ga.cellN c3;have q5:=ga.cellN c5;have y0:=ga.cellN d0;have y1:=ga.cellN d1;have y2:=ga.cellN d2;have y3:=ga.cellN d3;have y4:=ga.cellN d4;have y5:=ga.cellN d5;have y6:=ga.cellN d6)
  | (go_at_call 37;refine (kl wa (hd0.same fa)).mono ?_;rintro e wz ⟨rfl,p2,g2⟩;obtain ⟨e0',e1',e2',e3',e4',e5',e6'⟩:=ex_box (bs_keep g2 ((hd0.same fa).heap hbx (fun f=>f)) hne (by decide));have z0:=p2.fr.cellN h0;have z1:=p2.fr.cellN h1;have z2:=p2.fr.cellN h2;have z3:=p2.fr.cellN h3;have z4:=p2.fr.cellN h4;have z5:=p2.fr.cellN h5;have z6:=p2.fr.cellN h6))
 all_goals
  go_wp2_with fail
  go_end0
  exact ⟨rfl,p2⟩
theorem decl_2f (name:Bs) (ty:Int) (hty:ty=0∨ty=1∨ty=2∨ty=3) (acc T:Bs) (w0 w:World) (B b:Nat) (ht:F.Tab w0) (hw:PW w0 B b acc w) (ao1 ao3:Option Addr) (n1 n3 cap1 cap3:Nat) (x:EH) (kx:Exs) (b0 off cap2:Nat) (aok:Option Addr) (capk:Nat) (ho:OkE x) (hx:OkX kx) (hs:ShE x kx.len) (hsl:ShL kx)
 (hk:ExL w0 aok capk kx) (h0:w0.cell? ⟨b0,off,none⟩=some (ci x.kind)) (h1:w0.cell? ⟨b0,off+1,none⟩=some (ci x.op)) (h2:w0.cell? ⟨b0,off+2,none⟩=some (ct x.mod)) (h3:w0.cell? ⟨b0,off+3,none⟩=some (ct x.name)) (h4:w0.cell? ⟨b0,off+4,none⟩=some (ci x.vt)) (h5:w0.cell? ⟨b0,off+5,none⟩=some (.int .u64 x.vb)) (h6:w0.cell? ⟨b0,off+6,none⟩=some (.slice aok kx.len capk))
 (hT:Hidden (acc++([118,97,114,32]++name++tyT ty++[32,61,32]++txA txS x kx 1++[59,10])=T)) (hl:T.length≤140737488355328) :
 Calls Tryz.prog 38 #[bp b,.agg #[ci 2,.bool false,ct name,ci ty,.slice ao1 n1 cap1,.slice (some ⟨b0,off,none⟩) 1 cap2,.slice ao3 n3 cap3]] w fun e w'=>e = .returned (.tuple #[])∧PW w0 B b T w':=by
 have f0:=Fr.alloc (fun _=>False) w (deO 2 false name ty (.slice ao1 n1 cap1) (.slice (some ⟨b0,off,none⟩) 1 cap2) (.slice ao3 n3 cap3))
 have hbx:Hidden ((w.alloc (deO 2 false name ty (.slice ao1 n1 cap1) (.slice (some ⟨b0,off,none⟩) 1 cap2) (.slice ao3 n3 cap3))).heap[w.heap.size]?=some (deO 2 false name ty (.slice ao1 n1 cap1) (.slice (some ⟨b0,off,none⟩) 1 cap2) (.slice ao3 n3 cap3))):=alloc_new _ _
 have g0:=hw.fr.same f0
 have hne:=ne_pbld hw.bld
 have hlen:(txA txS x kx 1).length≤140737488355328:=by
  have:=congrArg List.length (show _=T from hT)
  simp only [List.length_append] at this
  omega
 have ke:=fun (w1:World) (f1:Fr (fun _=>False) (w.alloc (deO 2 false name ty (.slice ao1 n1 cap1) (.slice (some ⟨b0,off,none⟩) 1 cap2) (.slice ao3 n3 cap3))) w1)=>exprText_any x kx (exV x (.slice aok kx.len capk)) w1 ho hx hs hsl ⟨aok,capk,rfl,hk.keep (g0.same f1)⟩ (tab_fr ht (g0.same f1)) hlen
 generalize txA txS x kx 1=E at ke hT hlen
 have kt:=fun (w1:World)=>type_is ty hty w1
 generalize hty9:tyT ty=Y at kt hT
 have kl:=fun (w1:World) (f1:Fr (fun _=>False) (w.alloc (deO 2 false name ty (.slice ao1 n1 cap1) (.slice (some ⟨b0,off,none⟩) 1 cap2) (.slice ao3 n3 cap3))) w1)=>line_zero [[118,97,114,32],name,Y,[32,61,32],E,[59]] acc T w0 w1 B b (hw.quiet (f0.same f1)) (by simp) (by rw [←(show _=T from hT)];simp) hl
 have hd0:Fr (fun _=>False) (w.alloc (deO 2 false name ty (.slice ao1 n1 cap1) (.slice (some ⟨b0,off,none⟩) 1 cap2) (.slice ao3 n3 cap3))) (w.alloc (deO 2 false name ty (.slice ao1 n1 cap1) (.slice (some ⟨b0,off,none⟩) 1 cap2) (.slice ao3 n3 cap3))).drew:=Fr.drew _ _
 obtain ⟨c0,c1,c2,c3,c4,c5,c6⟩:=ex_box hbx
 have d0:=g0.cellN h0
 have d1:=g0.cellN h1
 have d2:=g0.cellN h2
 have d3:=g0.cellN h3
 have d4:=g0.cellN h4
 have d5:=g0.cellN h5
 have d6:=g0.cellN h6
 clear hT hty9
 go_enter Tryz.func38,Tryz.ntmps38
 go_wp2_with fail
 go_region_held3 (fun w'=>w'.cell? ⟨w.heap.size,2,none⟩=some (ct name)∧w'.cell? ⟨w.heap.size,3,none⟩=some (ci ty)∧w'.cell? ⟨w.heap.size,5,none⟩=some (.slice (some ⟨b0,off,none⟩) 1 cap2)∧w'.cell? ⟨b0,off,none⟩=some (ci x.kind)∧w'.cell? ⟨b0,off+1,none⟩=some (ci x.op)∧w'.cell? ⟨b0,off+2,none⟩=some (ct x.mod)∧w'.cell? ⟨b0,off+3,none⟩=some (ct x.name)∧w'.cell? ⟨b0,off+4,none⟩=some (ci x.vt)∧w'.cell? ⟨b0,off+5,none⟩=some (.int .u64 x.vb)∧w'.cell? ⟨b0,off+6,none⟩=some (.slice aok kx.len capk)) (first | (refine ⟨by assumption,by assumption,by assumption,by assumption,by assumption,by assumption,by assumption,by assumption,by assumption,by assumption⟩) | go_keep) (first
  | (go_at_call 80;refine (kt _).mono ?_;rintro e wt ⟨rfl,hwt⟩;have hwt:=hwt.symm;subst hwt)
  | (go_at_call 48;refine (ke _ hd0).mono ?_;rintro e wa ⟨rfl,fa⟩;have ga:=hd0.same fa;have q2:=ga.cellN c2;have q3:=ga.cellN c3;have q5:=ga.cellN c5;have y0:=ga.cellN d0;have y1:=ga.cellN d1;have y2:=ga.cellN d2;have y3:=ga.cellN d3;have y4:=ga.cellN d4;have y5:=ga.cellN d5;have y6:=ga.cellN d6)
  | (go_at_call 37;refine (kl wa (hd0.same fa)).mono ?_;rintro e wz ⟨rfl,p2,g2⟩;obtain ⟨e0',e1',e2',e3',e4',e5',e6'⟩:=ex_box (bs_keep g2 ((hd0.same fa).heap hbx (fun f=>f)) hne (by decide));have z0:=p2.fr.cellN h0;have z1:=p2.fr.cellN h1;have z2:=p2.fr.cellN h2;have z3:=p2.fr.cellN h3;have z4:=p2.fr.cellN h4;have z5:=p2.fr.cellN h5;have z6:=p2.fr.cellN h6))
 all_goals
  go_wp2_with fail
  go_end0
  exact ⟨rfl,p2⟩
end
end Go.Proofs.YteijjaabngkbjaaGreatDoor
