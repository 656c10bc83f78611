/- The program's printing of statements and declarations (8): a declaration. -/
import Derived.Test.YteijjaabngkbjaaGreatDoorPyG
namespace Go.Proofs.YteijjaabngkbjaaGreatDoor
open Go.RowKit Te
set_option linter.unusedSimpArgs false
set_option linter.unusedVariables false

theorem line_zero (l : List Bs) (acc T : Bs) (w0 w : World) (B b : Nat) (hw : PW w0 B b acc w) (hl9 : l.length ≤ 1000000) (hT : acc ++ l.flatten ++ [10] = T) (hl : T.length ≤ 140737488355328) :
    Calls Tryz.prog 37 #[bp b, ci 0, .slice (some ⟨w.heap.size, 0, none⟩) l.length l.length] (w.alloc (.cells (l.map ct).toArray 9)) fun e w' => e = .returned (.tuple #[]) ∧ PWrote w0 B b T w w' :=
  line_new2 0 l acc T w0 w B b hw (by decide) hl9 (by rw [← hT]; simp [Te.pad]) hl
abbrev deO (k : Int) (ex : Bool) (name : Bs) (ty : Int) (pv ev bv : Value) : Obj := .cells #[ci k, .bool ex, ct name, ci ty, pv, ev, bv] 51 (0, 0)
set_option maxRecDepth 20000 in
set_option maxHeartbeats 4000000 in
theorem decl_1t (name : Bs) (ty : Int) (hty : ty = 0 ∨ ty = 1 ∨ ty = 2 ∨ ty = 3) (acc T : Bs) (w0 w : World) (B b : Nat) (ht : F.Tab w0) (hw : PW w0 B b acc w) (ao1 ao3 : Option Addr) (n1 n3 cap1 cap3 : Nat) (x : EH) (kx : Exs) (b0 off cap2 : Nat) (aok : Option Addr) (capk : Nat) (ho : OkE x) (hx : OkX kx) (hs : ShE x kx.len) (hsl : ShL kx)
    (hk : ExL w0 aok capk kx) (h0 : w0.cell? ⟨b0, off, none⟩ = some (ci x.kind)) (h1 : w0.cell? ⟨b0, off + 1, none⟩ = some (ci x.op)) (h2 : w0.cell? ⟨b0, off + 2, none⟩ = some (ct x.mod)) (h3 : w0.cell? ⟨b0, off + 3, none⟩ = some (ct x.name)) (h4 : w0.cell? ⟨b0, off + 4, none⟩ = some (ci x.vt)) (h5 : w0.cell? ⟨b0, off + 5, none⟩ = some (.int .u64 x.vb)) (h6 : w0.cell? ⟨b0, off + 6, none⟩ = some (.slice aok kx.len capk))
    (hT : Hidden (acc ++ ([101, 120, 112, 111, 114, 116, 32] ++ [99, 111, 110, 115, 116, 32] ++ name ++ tyT ty ++ [32, 61, 32] ++ txA txS x kx 1 ++ [59, 10]) = T)) (hl : T.length ≤ 140737488355328) :
    Calls Tryz.prog 38 #[bp b, .agg #[ci 1, .bool true, ct name, ci ty, .slice ao1 n1 cap1, .slice (some ⟨b0, off, none⟩) 1 cap2, .slice ao3 n3 cap3]] w fun e w' => e = .returned (.tuple #[]) ∧ PW w0 B b T w' := by
  have f0 := Fr.alloc (fun _ => False) w (deO 1 true name ty (.slice ao1 n1 cap1) (.slice (some ⟨b0, off, none⟩) 1 cap2) (.slice ao3 n3 cap3))
  have hbx : Hidden ((w.alloc (deO 1 true name ty (.slice ao1 n1 cap1) (.slice (some ⟨b0, off, none⟩) 1 cap2) (.slice ao3 n3 cap3))).heap[w.heap.size]? = some (deO 1 true name ty (.slice ao1 n1 cap1) (.slice (some ⟨b0, off, none⟩) 1 cap2) (.slice ao3 n3 cap3))) := alloc_new _ _
  have g0 := hw.fr.same f0
  have hne := ne_pbld hw.bld
  have hlen : (txA txS x kx 1).length ≤ 140737488355328 := by
    have := congrArg List.length (show _ = T from hT)
    simp only [List.length_append] at this
    omega
  have ke := fun (w1 : World) (f1 : Fr (fun _ => False) (w.alloc (deO 1 true name ty (.slice ao1 n1 cap1) (.slice (some ⟨b0, off, none⟩) 1 cap2) (.slice ao3 n3 cap3))) w1) => exprText_any x kx (exV x (.slice aok kx.len capk)) w1 ho hx hs hsl ⟨aok, capk, rfl, hk.keep (g0.same f1)⟩ (tab_fr ht (g0.same f1)) hlen
  generalize txA txS x kx 1 = E at ke hT hlen
  have kt := fun (w1 : World) => type_is ty hty w1
  generalize hty9 : tyT ty = Y at kt hT
  have kl := fun (w1 : World) (f1 : Fr (fun _ => False) (w.alloc (deO 1 true name ty (.slice ao1 n1 cap1) (.slice (some ⟨b0, off, none⟩) 1 cap2) (.slice ao3 n3 cap3))) w1) => line_zero [[101, 120, 112, 111, 114, 116, 32], [99, 111, 110, 115, 116, 32], name, Y, [32, 61, 32], E, [59]] acc T w0 w1 B b (hw.quiet (f0.same f1)) (by simp) (by rw [← (show _ = T from hT)]; simp) hl
  have hd0 : Fr (fun _ => False) (w.alloc (deO 1 true name ty (.slice ao1 n1 cap1) (.slice (some ⟨b0, off, none⟩) 1 cap2) (.slice ao3 n3 cap3))) (w.alloc (deO 1 true name ty (.slice ao1 n1 cap1) (.slice (some ⟨b0, off, none⟩) 1 cap2) (.slice ao3 n3 cap3))).drew := Fr.drew _ _
  obtain ⟨c0, c1, c2, c3, c4, c5, c6⟩ := ex_box hbx
  have d0 := g0.cellN h0
  have d1 := g0.cellN h1
  have d2 := g0.cellN h2
  have d3 := g0.cellN h3
  have d4 := g0.cellN h4
  have d5 := g0.cellN h5
  have d6 := g0.cellN h6
  clear hT hty9
  go_enter Tryz.func38, Tryz.ntmps38
  go_wp2_with fail
  go_region_held3 (fun w' => w'.cell? ⟨w.heap.size, 2, none⟩ = some (ct name) ∧ w'.cell? ⟨w.heap.size, 3, none⟩ = some (ci ty) ∧ w'.cell? ⟨w.heap.size, 5, none⟩ = some (.slice (some ⟨b0, off, none⟩) 1 cap2) ∧ w'.cell? ⟨b0, off, none⟩ = some (ci x.kind) ∧ w'.cell? ⟨b0, off + 1, none⟩ = some (ci x.op) ∧ w'.cell? ⟨b0, off + 2, none⟩ = some (ct x.mod) ∧ w'.cell? ⟨b0, off + 3, none⟩ = some (ct x.name) ∧ w'.cell? ⟨b0, off + 4, none⟩ = some (ci x.vt) ∧ w'.cell? ⟨b0, off + 5, none⟩ = some (.int .u64 x.vb) ∧ w'.cell? ⟨b0, off + 6, none⟩ = some (.slice aok kx.len capk)) (first | (refine ⟨by assumption, by assumption, by assumption, by assumption, by assumption, by assumption, by assumption, by assumption, by assumption, by assumption⟩) | go_keep) (first
    | (go_at_call 80; refine (kt _).mono ?_; rintro e wt ⟨rfl, hwt⟩; have hwt := hwt.symm; subst hwt)
    | (go_at_call 48; refine (ke _ hd0).mono ?_; rintro e wa ⟨rfl, fa⟩; have ga := hd0.same fa; have q2 := ga.cellN c2; have q3 := ga.cellN c3; have q5 := ga.cellN c5; have y0 := ga.cellN d0; have y1 := ga.cellN d1; have y2 := ga.cellN d2; have y3 := ga.cellN d3; have y4 := ga.cellN d4; have y5 := ga.cellN d5; have y6 := ga.cellN d6)
    | (go_at_call 37; refine (kl wa (hd0.same fa)).mono ?_; rintro e wz ⟨rfl, p2, g2⟩; obtain ⟨e0', e1', e2', e3', e4', e5', e6'⟩ := ex_box (bs_keep g2 ((hd0.same fa).heap hbx (fun f => f)) hne (by decide)); have z0 := p2.fr.cellN h0; have z1 := p2.fr.cellN h1; have z2 := p2.fr.cellN h2; have z3 := p2.fr.cellN h3; have z4 := p2.fr.cellN h4; have z5 := p2.fr.cellN h5; have z6 := p2.fr.cellN h6))
  all_goals
    go_wp2_with fail
    go_end0
    exact ⟨rfl, p2⟩
set_option maxRecDepth 20000 in
set_option maxHeartbeats 4000000 in
theorem decl_1f (name : Bs) (ty : Int) (hty : ty = 0 ∨ ty = 1 ∨ ty = 2 ∨ ty = 3) (acc T : Bs) (w0 w : World) (B b : Nat) (ht : F.Tab w0) (hw : PW w0 B b acc w) (ao1 ao3 : Option Addr) (n1 n3 cap1 cap3 : Nat) (x : EH) (kx : Exs) (b0 off cap2 : Nat) (aok : Option Addr) (capk : Nat) (ho : OkE x) (hx : OkX kx) (hs : ShE x kx.len) (hsl : ShL kx)
    (hk : ExL w0 aok capk kx) (h0 : w0.cell? ⟨b0, off, none⟩ = some (ci x.kind)) (h1 : w0.cell? ⟨b0, off + 1, none⟩ = some (ci x.op)) (h2 : w0.cell? ⟨b0, off + 2, none⟩ = some (ct x.mod)) (h3 : w0.cell? ⟨b0, off + 3, none⟩ = some (ct x.name)) (h4 : w0.cell? ⟨b0, off + 4, none⟩ = some (ci x.vt)) (h5 : w0.cell? ⟨b0, off + 5, none⟩ = some (.int .u64 x.vb)) (h6 : w0.cell? ⟨b0, off + 6, none⟩ = some (.slice aok kx.len capk))
    (hT : Hidden (acc ++ ([99, 111, 110, 115, 116, 32] ++ name ++ tyT ty ++ [32, 61, 32] ++ txA txS x kx 1 ++ [59, 10]) = T)) (hl : T.length ≤ 140737488355328) :
    Calls Tryz.prog 38 #[bp b, .agg #[ci 1, .bool false, ct name, ci ty, .slice ao1 n1 cap1, .slice (some ⟨b0, off, none⟩) 1 cap2, .slice ao3 n3 cap3]] w fun e w' => e = .returned (.tuple #[]) ∧ PW w0 B b T w' := by
  have f0 := Fr.alloc (fun _ => False) w (deO 1 false name ty (.slice ao1 n1 cap1) (.slice (some ⟨b0, off, none⟩) 1 cap2) (.slice ao3 n3 cap3))
  have hbx : Hidden ((w.alloc (deO 1 false name ty (.slice ao1 n1 cap1) (.slice (some ⟨b0, off, none⟩) 1 cap2) (.slice ao3 n3 cap3))).heap[w.heap.size]? = some (deO 1 false name ty (.slice ao1 n1 cap1) (.slice (some ⟨b0, off, none⟩) 1 cap2) (.slice ao3 n3 cap3))) := alloc_new _ _
  have g0 := hw.fr.same f0
  have hne := ne_pbld hw.bld
  have hlen : (txA txS x kx 1).length ≤ 140737488355328 := by
    have := congrArg List.length (show _ = T from hT)
    simp only [List.length_append] at this
    omega
  have ke := fun (w1 : World) (f1 : Fr (fun _ => False) (w.alloc (deO 1 false name ty (.slice ao1 n1 cap1) (.slice (some ⟨b0, off, none⟩) 1 cap2) (.slice ao3 n3 cap3))) w1) => exprText_any x kx (exV x (.slice aok kx.len capk)) w1 ho hx hs hsl ⟨aok, capk, rfl, hk.keep (g0.same f1)⟩ (tab_fr ht (g0.same f1)) hlen
  generalize txA txS x kx 1 = E at ke hT hlen
  have kt := fun (w1 : World) => type_is ty hty w1
  generalize hty9 : tyT ty = Y at kt hT
  have kl := fun (w1 : World) (f1 : Fr (fun _ => False) (w.alloc (deO 1 false name ty (.slice ao1 n1 cap1) (.slice (some ⟨b0, off, none⟩) 1 cap2) (.slice ao3 n3 cap3))) w1) => line_zero [[], [99, 111, 110, 115, 116, 32], name, Y, [32, 61, 32], E, [59]] acc T w0 w1 B b (hw.quiet (f0.same f1)) (by simp) (by rw [← (show _ = T from hT)]; simp) hl
  have hd0 : Fr (fun _ => False) (w.alloc (deO 1 false name ty (.slice ao1 n1 cap1) (.slice (some ⟨b0, off, none⟩) 1 cap2) (.slice ao3 n3 cap3))) (w.alloc (deO 1 false name ty (.slice ao1 n1 cap1) (.slice (some ⟨b0, off, none⟩) 1 cap2) (.slice ao3 n3 cap3))).drew := Fr.drew _ _
  obtain ⟨c0, c1, c2, c3, c4, c5, c6⟩ := ex_box hbx
  have d0 := g0.cellN h0
  have d1 := g0.cellN h1
  have d2 := g0.cellN h2
  have d3 := g0.cellN h3
  have d4 := g0.cellN h4
  have d5 := g0.cellN h5
  have d6 := g0.cellN h6
  clear hT hty9
  go_enter Tryz.func38, Tryz.ntmps38
  go_wp2_with fail
  go_region_held3 (fun w' => w'.cell? ⟨w.heap.size, 2, none⟩ = some (ct name) ∧ w'.cell? ⟨w.heap.size, 3, none⟩ = some (ci ty) ∧ w'.cell? ⟨w.heap.size, 5, none⟩ = some (.slice (some ⟨b0, off, none⟩) 1 cap2) ∧ w'.cell? ⟨b0, off, none⟩ = some (ci x.kind) ∧ w'.cell? ⟨b0, off + 1, none⟩ = some (ci x.op) ∧ w'.cell? ⟨b0, off + 2, none⟩ = some (ct x.mod) ∧ w'.cell? ⟨b0, off + 3, none⟩ = some (ct x.name) ∧ w'.cell? ⟨b0, off + 4, none⟩ = some (ci x.vt) ∧ w'.cell? ⟨b0, off + 5, none⟩ = some (.int .u64 x.vb) ∧ w'.cell? ⟨b0, off + 6, none⟩ = some (.slice aok kx.len capk)) (first | (refine ⟨by assumption, by assumption, by assumption, by assumption, by assumption, by assumption, by assumption, by assumption, by assumption, by assumption⟩) | go_keep) (first
    | (go_at_call 80; refine (kt _).mono ?_; rintro e wt ⟨rfl, hwt⟩; have hwt := hwt.symm; subst hwt)
    | (go_at_call 48; refine (ke _ hd0).mono ?_; rintro e wa ⟨rfl, fa⟩; have ga := hd0.same fa; have q2 := ga.cellN c2; have q3 := ga.cellN c3; have q5 := ga.cellN c5; have y0 := ga.cellN d0; have y1 := ga.cellN d1; have y2 := ga.cellN d2; have y3 := ga.cellN d3; have y4 := ga.cellN d4; have y5 := ga.cellN d5; have y6 := ga.cellN d6)
    | (go_at_call 37; refine (kl wa (hd0.same fa)).mono ?_; rintro e wz ⟨rfl, p2, g2⟩; obtain ⟨e0', e1', e2', e3', e4', e5', e6'⟩ := ex_box (bs_keep g2 ((hd0.same fa).heap hbx (fun f => f)) hne (by decide)); have z0 := p2.fr.cellN h0; have z1 := p2.fr.cellN h1; have z2 := p2.fr.cellN h2; have z3 := p2.fr.cellN h3; have z4 := p2.fr.cellN h4; have z5 := p2.fr.cellN h5; have z6 := p2.fr.cellN h6))
  all_goals
    go_wp2_with fail
    go_end0
    exact ⟨rfl, p2⟩
set_option maxRecDepth 20000 in
set_option maxHeartbeats 4000000 in
theorem decl_2f (name : Bs) (ty : Int) (hty : ty = 0 ∨ ty = 1 ∨ ty = 2 ∨ ty = 3) (acc T : Bs) (w0 w : World) (B b : Nat) (ht : F.Tab w0) (hw : PW w0 B b acc w) (ao1 ao3 : Option Addr) (n1 n3 cap1 cap3 : Nat) (x : EH) (kx : Exs) (b0 off cap2 : Nat) (aok : Option Addr) (capk : Nat) (ho : OkE x) (hx : OkX kx) (hs : ShE x kx.len) (hsl : ShL kx)
    (hk : ExL w0 aok capk kx) (h0 : w0.cell? ⟨b0, off, none⟩ = some (ci x.kind)) (h1 : w0.cell? ⟨b0, off + 1, none⟩ = some (ci x.op)) (h2 : w0.cell? ⟨b0, off + 2, none⟩ = some (ct x.mod)) (h3 : w0.cell? ⟨b0, off + 3, none⟩ = some (ct x.name)) (h4 : w0.cell? ⟨b0, off + 4, none⟩ = some (ci x.vt)) (h5 : w0.cell? ⟨b0, off + 5, none⟩ = some (.int .u64 x.vb)) (h6 : w0.cell? ⟨b0, off + 6, none⟩ = some (.slice aok kx.len capk))
    (hT : Hidden (acc ++ ([118, 97, 114, 32] ++ name ++ tyT ty ++ [32, 61, 32] ++ txA txS x kx 1 ++ [59, 10]) = T)) (hl : T.length ≤ 140737488355328) :
    Calls Tryz.prog 38 #[bp b, .agg #[ci 2, .bool false, ct name, ci ty, .slice ao1 n1 cap1, .slice (some ⟨b0, off, none⟩) 1 cap2, .slice ao3 n3 cap3]] w fun e w' => e = .returned (.tuple #[]) ∧ PW w0 B b T w' := by
  have f0 := Fr.alloc (fun _ => False) w (deO 2 false name ty (.slice ao1 n1 cap1) (.slice (some ⟨b0, off, none⟩) 1 cap2) (.slice ao3 n3 cap3))
  have hbx : Hidden ((w.alloc (deO 2 false name ty (.slice ao1 n1 cap1) (.slice (some ⟨b0, off, none⟩) 1 cap2) (.slice ao3 n3 cap3))).heap[w.heap.size]? = some (deO 2 false name ty (.slice ao1 n1 cap1) (.slice (some ⟨b0, off, none⟩) 1 cap2) (.slice ao3 n3 cap3))) := alloc_new _ _
  have g0 := hw.fr.same f0
  have hne := ne_pbld hw.bld
  have hlen : (txA txS x kx 1).length ≤ 140737488355328 := by
    have := congrArg List.length (show _ = T from hT)
    simp only [List.length_append] at this
    omega
  have ke := fun (w1 : World) (f1 : Fr (fun _ => False) (w.alloc (deO 2 false name ty (.slice ao1 n1 cap1) (.slice (some ⟨b0, off, none⟩) 1 cap2) (.slice ao3 n3 cap3))) w1) => exprText_any x kx (exV x (.slice aok kx.len capk)) w1 ho hx hs hsl ⟨aok, capk, rfl, hk.keep (g0.same f1)⟩ (tab_fr ht (g0.same f1)) hlen
  generalize txA txS x kx 1 = E at ke hT hlen
  have kt := fun (w1 : World) => type_is ty hty w1
  generalize hty9 : tyT ty = Y at kt hT
  have kl := fun (w1 : World) (f1 : Fr (fun _ => False) (w.alloc (deO 2 false name ty (.slice ao1 n1 cap1) (.slice (some ⟨b0, off, none⟩) 1 cap2) (.slice ao3 n3 cap3))) w1) => line_zero [[118, 97, 114, 32], name, Y, [32, 61, 32], E, [59]] acc T w0 w1 B b (hw.quiet (f0.same f1)) (by simp) (by rw [← (show _ = T from hT)]; simp) hl
  have hd0 : Fr (fun _ => False) (w.alloc (deO 2 false name ty (.slice ao1 n1 cap1) (.slice (some ⟨b0, off, none⟩) 1 cap2) (.slice ao3 n3 cap3))) (w.alloc (deO 2 false name ty (.slice ao1 n1 cap1) (.slice (some ⟨b0, off, none⟩) 1 cap2) (.slice ao3 n3 cap3))).drew := Fr.drew _ _
  obtain ⟨c0, c1, c2, c3, c4, c5, c6⟩ := ex_box hbx
  have d0 := g0.cellN h0
  have d1 := g0.cellN h1
  have d2 := g0.cellN h2
  have d3 := g0.cellN h3
  have d4 := g0.cellN h4
  have d5 := g0.cellN h5
  have d6 := g0.cellN h6
  clear hT hty9
  go_enter Tryz.func38, Tryz.ntmps38
  go_wp2_with fail
  go_region_held3 (fun w' => w'.cell? ⟨w.heap.size, 2, none⟩ = some (ct name) ∧ w'.cell? ⟨w.heap.size, 3, none⟩ = some (ci ty) ∧ w'.cell? ⟨w.heap.size, 5, none⟩ = some (.slice (some ⟨b0, off, none⟩) 1 cap2) ∧ w'.cell? ⟨b0, off, none⟩ = some (ci x.kind) ∧ w'.cell? ⟨b0, off + 1, none⟩ = some (ci x.op) ∧ w'.cell? ⟨b0, off + 2, none⟩ = some (ct x.mod) ∧ w'.cell? ⟨b0, off + 3, none⟩ = some (ct x.name) ∧ w'.cell? ⟨b0, off + 4, none⟩ = some (ci x.vt) ∧ w'.cell? ⟨b0, off + 5, none⟩ = some (.int .u64 x.vb) ∧ w'.cell? ⟨b0, off + 6, none⟩ = some (.slice aok kx.len capk)) (first | (refine ⟨by assumption, by assumption, by assumption, by assumption, by assumption, by assumption, by assumption, by assumption, by assumption, by assumption⟩) | go_keep) (first
    | (go_at_call 80; refine (kt _).mono ?_; rintro e wt ⟨rfl, hwt⟩; have hwt := hwt.symm; subst hwt)
    | (go_at_call 48; refine (ke _ hd0).mono ?_; rintro e wa ⟨rfl, fa⟩; have ga := hd0.same fa; have q2 := ga.cellN c2; have q3 := ga.cellN c3; have q5 := ga.cellN c5; have y0 := ga.cellN d0; have y1 := ga.cellN d1; have y2 := ga.cellN d2; have y3 := ga.cellN d3; have y4 := ga.cellN d4; have y5 := ga.cellN d5; have y6 := ga.cellN d6)
    | (go_at_call 37; refine (kl wa (hd0.same fa)).mono ?_; rintro e wz ⟨rfl, p2, g2⟩; obtain ⟨e0', e1', e2', e3', e4', e5', e6'⟩ := ex_box (bs_keep g2 ((hd0.same fa).heap hbx (fun f => f)) hne (by decide)); have z0 := p2.fr.cellN h0; have z1 := p2.fr.cellN h1; have z2 := p2.fr.cellN h2; have z3 := p2.fr.cellN h3; have z4 := p2.fr.cellN h4; have z5 := p2.fr.cellN h5; have z6 := p2.fr.cellN h6))
  all_goals
    go_wp2_with fail
    go_end0
    exact ⟨rfl, p2⟩
end Go.Proofs.YteijjaabngkbjaaGreatDoor
