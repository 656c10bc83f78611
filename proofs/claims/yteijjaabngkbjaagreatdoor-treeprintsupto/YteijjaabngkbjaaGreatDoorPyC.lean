/- The program's printing of statements and declarations (3): a statement. -/
import Derived.Test.YteijjaabngkbjaaGreatDoorPyB
namespace Go.Proofs.YteijjaabngkbjaaGreatDoor
open Go.RowKit Te
set_option linter.unusedSimpArgs false
set_option linter.unusedVariables false

abbrev stO (k : Int) (name : Bs) (ev bv lv : Value) : Obj := .cells #[ci k, ct name, ev, bv, lv] 91 (0, 0)
/-- The contract of writing a block. -/
def BlkW (k : Sts) (n : Nat) : Prop := ∀ (z : Int), z = (n : Int) → ∀ (ao : Option Addr) (cap : Nat) (w0 w : World) (B b : Nat) (acc T : Bs), StL w0 ao cap k → F.Tab w0 → PW w0 B b acc w → Hidden (acc ++ stT txS k n = T) → T.length ≤ 140737488355328 →
  Calls Tryz.prog 82 #[bp b, .slice ao k.len cap, ci z] w fun e w' => e = .returned (.tuple #[]) ∧ PWrote w0 B b T w w'
set_option maxRecDepth 20000 in
set_option maxHeartbeats 4000000 in
theorem stmt_6 (n : Nat) (hn : n ≤ 1000000) (name : Bs) (acc T : Bs) (w0 w : World) (B b : Nat) (ht : F.Tab w0) (hw : PW w0 B b acc w) (ao2 ao3 : Option Addr) (n2 n3 cap2 cap3 : Nat) (x : EH) (kx : Exs) (b0 off cap1 : Nat) (aok : Option Addr) (capk : Nat) (ho : OkE x) (hx : OkX kx) (hs : ShE x kx.len) (hsl : ShL kx)
    (hk : ExL w0 aok capk kx) (h0 : w0.cell? ⟨b0, off, none⟩ = some (ci x.kind)) (h1 : w0.cell? ⟨b0, off + 1, none⟩ = some (ci x.op)) (h2 : w0.cell? ⟨b0, off + 2, none⟩ = some (ct x.mod)) (h3 : w0.cell? ⟨b0, off + 3, none⟩ = some (ct x.name)) (h4 : w0.cell? ⟨b0, off + 4, none⟩ = some (ci x.vt)) (h5 : w0.cell? ⟨b0, off + 5, none⟩ = some (.int .u64 x.vb)) (h6 : w0.cell? ⟨b0, off + 6, none⟩ = some (.slice aok kx.len capk))
    (hT : Hidden (acc ++ (pad n ++ ([115, 104, 111, 119, 32] ++ txA txS x kx 1 ++ [59, 10])) = T)) (hl : T.length ≤ 140737488355328) :
    Calls Tryz.prog 129 #[bp b, stV ⟨6, name⟩ (.slice (some ⟨b0, off, none⟩) 1 cap1) (.slice ao2 n2 cap2) (.slice ao3 n3 cap3), ci (n : Int)] w fun e w' => e = .returned (.tuple #[]) ∧ PWrote w0 B b T w w' := by
  have f0 := Fr.alloc (fun _ => False) w (stO 6 name (.slice (some ⟨b0, off, none⟩) 1 cap1) (.slice ao2 n2 cap2) (.slice ao3 n3 cap3))
  have hbx : Hidden ((w.alloc (stO 6 name (.slice (some ⟨b0, off, none⟩) 1 cap1) (.slice ao2 n2 cap2) (.slice ao3 n3 cap3))).heap[w.heap.size]? = some (stO 6 name (.slice (some ⟨b0, off, none⟩) 1 cap1) (.slice ao2 n2 cap2) (.slice ao3 n3 cap3))) := alloc_new _ _
  have g0 := hw.fr.same f0
  have hne := ne_pbld hw.bld
  have d0 := g0.cellN h0
  have d1 := g0.cellN h1
  have d2 := g0.cellN h2
  have d3 := g0.cellN h3
  have d4 := g0.cellN h4
  have d5 := g0.cellN h5
  have d6 := g0.cellN h6
  have hlen : (txA txS x kx 1).length ≤ 140737488355328 := by
    have := congrArg List.length (show _ = T from hT)
    simp only [List.length_append] at this
    omega
  have ke := exprText_any x kx (exV x (.slice aok kx.len capk)) (w.alloc (stO 6 name (.slice (some ⟨b0, off, none⟩) 1 cap1) (.slice ao2 n2 cap2) (.slice ao3 n3 cap3))) ho hx hs hsl ⟨aok, capk, rfl, hk.keep g0⟩ (tab_fr ht g0) hlen
  generalize txA txS x kx 1 = E at ke hT hlen
  go_enter Tryz.func129, Tryz.ntmps129
  go_wp2_with fail
  go_at_call 48
  refine ke.mono ?_
  rintro e w1 ⟨rfl, f1⟩
  have kl := line_new2 n [[115, 104, 111, 119, 32], E, [59]] acc T w0 w1 B b (hw.quiet (f0.same f1)) hn (by simp) (by rw [← (show _ = T from hT)]; simp) hl
  go_wp2_with fail
  go_at_call 37
  refine kl.mono ?_
  rintro e w2 ⟨rfl, p2, g2⟩
  go_wp2_with fail
  go_end0
  exact ⟨rfl, p2, bs_then (f0.same f1) g2⟩
set_option maxRecDepth 20000 in
set_option maxHeartbeats 4000000 in
theorem stmt_7 (n : Nat) (hn : n ≤ 1000000) (name : Bs) (acc T : Bs) (w0 w : World) (B b : Nat) (ht : F.Tab w0) (hw : PW w0 B b acc w) (ao2 ao3 : Option Addr) (n2 n3 cap2 cap3 : Nat) (x : EH) (kx : Exs) (b0 off cap1 : Nat) (aok : Option Addr) (capk : Nat) (ho : OkE x) (hx : OkX kx) (hs : ShE x kx.len) (hsl : ShL kx)
    (hk : ExL w0 aok capk kx) (h0 : w0.cell? ⟨b0, off, none⟩ = some (ci x.kind)) (h1 : w0.cell? ⟨b0, off + 1, none⟩ = some (ci x.op)) (h2 : w0.cell? ⟨b0, off + 2, none⟩ = some (ct x.mod)) (h3 : w0.cell? ⟨b0, off + 3, none⟩ = some (ct x.name)) (h4 : w0.cell? ⟨b0, off + 4, none⟩ = some (ci x.vt)) (h5 : w0.cell? ⟨b0, off + 5, none⟩ = some (.int .u64 x.vb)) (h6 : w0.cell? ⟨b0, off + 6, none⟩ = some (.slice aok kx.len capk))
    (hT : Hidden (acc ++ (pad n ++ ([102, 97, 105, 108, 32] ++ txA txS x kx 1 ++ [59, 10])) = T)) (hl : T.length ≤ 140737488355328) :
    Calls Tryz.prog 129 #[bp b, stV ⟨7, name⟩ (.slice (some ⟨b0, off, none⟩) 1 cap1) (.slice ao2 n2 cap2) (.slice ao3 n3 cap3), ci (n : Int)] w fun e w' => e = .returned (.tuple #[]) ∧ PWrote w0 B b T w w' := by
  have f0 := Fr.alloc (fun _ => False) w (stO 7 name (.slice (some ⟨b0, off, none⟩) 1 cap1) (.slice ao2 n2 cap2) (.slice ao3 n3 cap3))
  have hbx : Hidden ((w.alloc (stO 7 name (.slice (some ⟨b0, off, none⟩) 1 cap1) (.slice ao2 n2 cap2) (.slice ao3 n3 cap3))).heap[w.heap.size]? = some (stO 7 name (.slice (some ⟨b0, off, none⟩) 1 cap1) (.slice ao2 n2 cap2) (.slice ao3 n3 cap3))) := alloc_new _ _
  have g0 := hw.fr.same f0
  have hne := ne_pbld hw.bld
  have d0 := g0.cellN h0
  have d1 := g0.cellN h1
  have d2 := g0.cellN h2
  have d3 := g0.cellN h3
  have d4 := g0.cellN h4
  have d5 := g0.cellN h5
  have d6 := g0.cellN h6
  have hlen : (txA txS x kx 1).length ≤ 140737488355328 := by
    have := congrArg List.length (show _ = T from hT)
    simp only [List.length_append] at this
    omega
  have ke := exprText_any x kx (exV x (.slice aok kx.len capk)) (w.alloc (stO 7 name (.slice (some ⟨b0, off, none⟩) 1 cap1) (.slice ao2 n2 cap2) (.slice ao3 n3 cap3))) ho hx hs hsl ⟨aok, capk, rfl, hk.keep g0⟩ (tab_fr ht g0) hlen
  generalize txA txS x kx 1 = E at ke hT hlen
  go_enter Tryz.func129, Tryz.ntmps129
  go_wp2_with fail
  go_at_call 48
  refine ke.mono ?_
  rintro e w1 ⟨rfl, f1⟩
  have kl := line_new2 n [[102, 97, 105, 108, 32], E, [59]] acc T w0 w1 B b (hw.quiet (f0.same f1)) hn (by simp) (by rw [← (show _ = T from hT)]; simp) hl
  go_wp2_with fail
  go_at_call 37
  refine kl.mono ?_
  rintro e w2 ⟨rfl, p2, g2⟩
  go_wp2_with fail
  go_end0
  exact ⟨rfl, p2, bs_then (f0.same f1) g2⟩
set_option maxRecDepth 20000 in
set_option maxHeartbeats 4000000 in
theorem stmt_9 (n : Nat) (hn : n ≤ 1000000) (name : Bs) (acc T : Bs) (w0 w : World) (B b : Nat) (ht : F.Tab w0) (hw : PW w0 B b acc w) (ao2 ao3 : Option Addr) (n2 n3 cap2 cap3 : Nat) (x : EH) (kx : Exs) (b0 off cap1 : Nat) (aok : Option Addr) (capk : Nat) (ho : OkE x) (hx : OkX kx) (hs : ShE x kx.len) (hsl : ShL kx)
    (hk : ExL w0 aok capk kx) (h0 : w0.cell? ⟨b0, off, none⟩ = some (ci x.kind)) (h1 : w0.cell? ⟨b0, off + 1, none⟩ = some (ci x.op)) (h2 : w0.cell? ⟨b0, off + 2, none⟩ = some (ct x.mod)) (h3 : w0.cell? ⟨b0, off + 3, none⟩ = some (ct x.name)) (h4 : w0.cell? ⟨b0, off + 4, none⟩ = some (ci x.vt)) (h5 : w0.cell? ⟨b0, off + 5, none⟩ = some (.int .u64 x.vb)) (h6 : w0.cell? ⟨b0, off + 6, none⟩ = some (.slice aok kx.len capk))
    (hT : Hidden (acc ++ (pad n ++ (txA txS x kx 1 ++ [59, 10])) = T)) (hl : T.length ≤ 140737488355328) :
    Calls Tryz.prog 129 #[bp b, stV ⟨9, name⟩ (.slice (some ⟨b0, off, none⟩) 1 cap1) (.slice ao2 n2 cap2) (.slice ao3 n3 cap3), ci (n : Int)] w fun e w' => e = .returned (.tuple #[]) ∧ PWrote w0 B b T w w' := by
  have f0 := Fr.alloc (fun _ => False) w (stO 9 name (.slice (some ⟨b0, off, none⟩) 1 cap1) (.slice ao2 n2 cap2) (.slice ao3 n3 cap3))
  have hbx : Hidden ((w.alloc (stO 9 name (.slice (some ⟨b0, off, none⟩) 1 cap1) (.slice ao2 n2 cap2) (.slice ao3 n3 cap3))).heap[w.heap.size]? = some (stO 9 name (.slice (some ⟨b0, off, none⟩) 1 cap1) (.slice ao2 n2 cap2) (.slice ao3 n3 cap3))) := alloc_new _ _
  have g0 := hw.fr.same f0
  have hne := ne_pbld hw.bld
  have d0 := g0.cellN h0
  have d1 := g0.cellN h1
  have d2 := g0.cellN h2
  have d3 := g0.cellN h3
  have d4 := g0.cellN h4
  have d5 := g0.cellN h5
  have d6 := g0.cellN h6
  have hlen : (txA txS x kx 1).length ≤ 140737488355328 := by
    have := congrArg List.length (show _ = T from hT)
    simp only [List.length_append] at this
    omega
  have ke := exprText_any x kx (exV x (.slice aok kx.len capk)) (w.alloc (stO 9 name (.slice (some ⟨b0, off, none⟩) 1 cap1) (.slice ao2 n2 cap2) (.slice ao3 n3 cap3))) ho hx hs hsl ⟨aok, capk, rfl, hk.keep g0⟩ (tab_fr ht g0) hlen
  generalize txA txS x kx 1 = E at ke hT hlen
  go_enter Tryz.func129, Tryz.ntmps129
  go_wp2_with fail
  go_at_call 48
  refine ke.mono ?_
  rintro e w1 ⟨rfl, f1⟩
  have kl := line_new2 n [E, [59]] acc T w0 w1 B b (hw.quiet (f0.same f1)) hn (by simp) (by rw [← (show _ = T from hT)]; simp) hl
  go_wp2_with fail
  go_at_call 37
  refine kl.mono ?_
  rintro e w2 ⟨rfl, p2, g2⟩
  go_wp2_with fail
  go_end0
  exact ⟨rfl, p2, bs_then (f0.same f1) g2⟩
set_option maxRecDepth 20000 in
set_option maxHeartbeats 4000000 in
theorem stmt_1 (n : Nat) (hn : n ≤ 1000000) (name : Bs) (acc T : Bs) (w0 w : World) (B b : Nat) (ht : F.Tab w0) (hw : PW w0 B b acc w) (ao2 ao3 : Option Addr) (n2 n3 cap2 cap3 : Nat) (x : EH) (kx : Exs) (b0 off cap1 : Nat) (aok : Option Addr) (capk : Nat) (ho : OkE x) (hx : OkX kx) (hs : ShE x kx.len) (hsl : ShL kx)
    (hk : ExL w0 aok capk kx) (h0 : w0.cell? ⟨b0, off, none⟩ = some (ci x.kind)) (h1 : w0.cell? ⟨b0, off + 1, none⟩ = some (ci x.op)) (h2 : w0.cell? ⟨b0, off + 2, none⟩ = some (ct x.mod)) (h3 : w0.cell? ⟨b0, off + 3, none⟩ = some (ct x.name)) (h4 : w0.cell? ⟨b0, off + 4, none⟩ = some (ci x.vt)) (h5 : w0.cell? ⟨b0, off + 5, none⟩ = some (.int .u64 x.vb)) (h6 : w0.cell? ⟨b0, off + 6, none⟩ = some (.slice aok kx.len capk))
    (hT : Hidden (acc ++ (pad n ++ ([108, 101, 116, 32] ++ name ++ [32, 61, 32] ++ txA txS x kx 1 ++ [59, 10])) = T)) (hl : T.length ≤ 140737488355328) :
    Calls Tryz.prog 129 #[bp b, stV ⟨1, name⟩ (.slice (some ⟨b0, off, none⟩) 1 cap1) (.slice ao2 n2 cap2) (.slice ao3 n3 cap3), ci (n : Int)] w fun e w' => e = .returned (.tuple #[]) ∧ PWrote w0 B b T w w' := by
  have f0 := Fr.alloc (fun _ => False) w (stO 1 name (.slice (some ⟨b0, off, none⟩) 1 cap1) (.slice ao2 n2 cap2) (.slice ao3 n3 cap3))
  have hbx : Hidden ((w.alloc (stO 1 name (.slice (some ⟨b0, off, none⟩) 1 cap1) (.slice ao2 n2 cap2) (.slice ao3 n3 cap3))).heap[w.heap.size]? = some (stO 1 name (.slice (some ⟨b0, off, none⟩) 1 cap1) (.slice ao2 n2 cap2) (.slice ao3 n3 cap3))) := alloc_new _ _
  have g0 := hw.fr.same f0
  have hne := ne_pbld hw.bld
  have hlen : (txA txS x kx 1).length ≤ 140737488355328 := by
    have := congrArg List.length (show _ = T from hT)
    simp only [List.length_append] at this
    omega
  have ke := fun (w1 : World) (f1 : Fr (fun _ => False) (w.alloc (stO 1 name (.slice (some ⟨b0, off, none⟩) 1 cap1) (.slice ao2 n2 cap2) (.slice ao3 n3 cap3))) w1) => exprText_any x kx (exV x (.slice aok kx.len capk)) w1 ho hx hs hsl ⟨aok, capk, rfl, hk.keep (g0.same f1)⟩ (tab_fr ht (g0.same f1)) hlen
  generalize txA txS x kx 1 = E at ke hT hlen
  have kl := fun (w1 : World) (f1 : Fr (fun _ => False) (w.alloc (stO 1 name (.slice (some ⟨b0, off, none⟩) 1 cap1) (.slice ao2 n2 cap2) (.slice ao3 n3 cap3))) w1) => line_new2 n [[108, 101, 116, 32], name, [32, 61, 32], E, [59]] acc T w0 w1 B b (hw.quiet (f0.same f1)) hn (by simp) (by rw [← (show _ = T from hT)]; simp) hl
  have hd0 : Fr (fun _ => False) (w.alloc (stO 1 name (.slice (some ⟨b0, off, none⟩) 1 cap1) (.slice ao2 n2 cap2) (.slice ao3 n3 cap3))) (w.alloc (stO 1 name (.slice (some ⟨b0, off, none⟩) 1 cap1) (.slice ao2 n2 cap2) (.slice ao3 n3 cap3))).drew := Fr.drew _ _
  obtain ⟨c0, c1, c2, c3, c4⟩ := st_box hbx
  have d0 := g0.cellN h0
  have d1 := g0.cellN h1
  have d2 := g0.cellN h2
  have d3 := g0.cellN h3
  have d4 := g0.cellN h4
  have d5 := g0.cellN h5
  have d6 := g0.cellN h6
  clear hT
  go_enter Tryz.func129, Tryz.ntmps129
  go_wp2_with fail
  go_region_held3 (fun w' => w'.cell? ⟨w.heap.size, 1, none⟩ = some (ct name) ∧ w'.cell? ⟨w.heap.size, 2, none⟩ = some (.slice (some ⟨b0, off, none⟩) 1 cap1) ∧ w'.cell? ⟨b0, off, none⟩ = some (ci x.kind) ∧ w'.cell? ⟨b0, off + 1, none⟩ = some (ci x.op) ∧ w'.cell? ⟨b0, off + 2, none⟩ = some (ct x.mod) ∧ w'.cell? ⟨b0, off + 3, none⟩ = some (ct x.name) ∧ w'.cell? ⟨b0, off + 4, none⟩ = some (ci x.vt) ∧ w'.cell? ⟨b0, off + 5, none⟩ = some (.int .u64 x.vb) ∧ w'.cell? ⟨b0, off + 6, none⟩ = some (.slice aok kx.len capk)) (first | (refine ⟨by assumption, by assumption, by assumption, by assumption, by assumption, by assumption, by assumption, by assumption, by assumption⟩) | go_keep) (first
    | (go_at_call 48; refine (ke _ hd0).mono ?_; rintro e wa ⟨rfl, fa⟩; have ga := hd0.same fa; have q1 := ga.cellN c1; have q2 := ga.cellN c2; have y0 := ga.cellN d0; have y1 := ga.cellN d1; have y2 := ga.cellN d2; have y3 := ga.cellN d3; have y4 := ga.cellN d4; have y5 := ga.cellN d5; have y6 := ga.cellN d6)
    | (go_at_call 37; refine (kl wa (hd0.same fa)).mono ?_; rintro e wz ⟨rfl, p2, g2⟩; obtain ⟨b0', b1', b2', b3', b4'⟩ := st_box (bs_keep g2 ((hd0.same fa).heap hbx (fun f => f)) hne (by decide)); have z0 := p2.fr.cellN h0; have z1 := p2.fr.cellN h1; have z2 := p2.fr.cellN h2; have z3 := p2.fr.cellN h3; have z4 := p2.fr.cellN h4; have z5 := p2.fr.cellN h5; have z6 := p2.fr.cellN h6))
  all_goals
    go_wp2_with fail
    go_end0
    exact ⟨rfl, p2, bs_then (f0.same (hd0.same fa)) g2⟩
set_option maxRecDepth 20000 in
set_option maxHeartbeats 4000000 in
theorem stmt_2 (n : Nat) (hn : n ≤ 1000000) (name : Bs) (acc T : Bs) (w0 w : World) (B b : Nat) (ht : F.Tab w0) (hw : PW w0 B b acc w) (ao2 ao3 : Option Addr) (n2 n3 cap2 cap3 : Nat) (x : EH) (kx : Exs) (b0 off cap1 : Nat) (aok : Option Addr) (capk : Nat) (ho : OkE x) (hx : OkX kx) (hs : ShE x kx.len) (hsl : ShL kx)
    (hk : ExL w0 aok capk kx) (h0 : w0.cell? ⟨b0, off, none⟩ = some (ci x.kind)) (h1 : w0.cell? ⟨b0, off + 1, none⟩ = some (ci x.op)) (h2 : w0.cell? ⟨b0, off + 2, none⟩ = some (ct x.mod)) (h3 : w0.cell? ⟨b0, off + 3, none⟩ = some (ct x.name)) (h4 : w0.cell? ⟨b0, off + 4, none⟩ = some (ci x.vt)) (h5 : w0.cell? ⟨b0, off + 5, none⟩ = some (.int .u64 x.vb)) (h6 : w0.cell? ⟨b0, off + 6, none⟩ = some (.slice aok kx.len capk))
    (hT : Hidden (acc ++ (pad n ++ (name ++ [32, 61, 32] ++ txA txS x kx 1 ++ [59, 10])) = T)) (hl : T.length ≤ 140737488355328) :
    Calls Tryz.prog 129 #[bp b, stV ⟨2, name⟩ (.slice (some ⟨b0, off, none⟩) 1 cap1) (.slice ao2 n2 cap2) (.slice ao3 n3 cap3), ci (n : Int)] w fun e w' => e = .returned (.tuple #[]) ∧ PWrote w0 B b T w w' := by
  have f0 := Fr.alloc (fun _ => False) w (stO 2 name (.slice (some ⟨b0, off, none⟩) 1 cap1) (.slice ao2 n2 cap2) (.slice ao3 n3 cap3))
  have hbx : Hidden ((w.alloc (stO 2 name (.slice (some ⟨b0, off, none⟩) 1 cap1) (.slice ao2 n2 cap2) (.slice ao3 n3 cap3))).heap[w.heap.size]? = some (stO 2 name (.slice (some ⟨b0, off, none⟩) 1 cap1) (.slice ao2 n2 cap2) (.slice ao3 n3 cap3))) := alloc_new _ _
  have g0 := hw.fr.same f0
  have hne := ne_pbld hw.bld
  have hlen : (txA txS x kx 1).length ≤ 140737488355328 := by
    have := congrArg List.length (show _ = T from hT)
    simp only [List.length_append] at this
    omega
  have ke := fun (w1 : World) (f1 : Fr (fun _ => False) (w.alloc (stO 2 name (.slice (some ⟨b0, off, none⟩) 1 cap1) (.slice ao2 n2 cap2) (.slice ao3 n3 cap3))) w1) => exprText_any x kx (exV x (.slice aok kx.len capk)) w1 ho hx hs hsl ⟨aok, capk, rfl, hk.keep (g0.same f1)⟩ (tab_fr ht (g0.same f1)) hlen
  generalize txA txS x kx 1 = E at ke hT hlen
  have kl := fun (w1 : World) (f1 : Fr (fun _ => False) (w.alloc (stO 2 name (.slice (some ⟨b0, off, none⟩) 1 cap1) (.slice ao2 n2 cap2) (.slice ao3 n3 cap3))) w1) => line_new2 n [name, [32, 61, 32], E, [59]] acc T w0 w1 B b (hw.quiet (f0.same f1)) hn (by simp) (by rw [← (show _ = T from hT)]; simp) hl
  have hd0 : Fr (fun _ => False) (w.alloc (stO 2 name (.slice (some ⟨b0, off, none⟩) 1 cap1) (.slice ao2 n2 cap2) (.slice ao3 n3 cap3))) (w.alloc (stO 2 name (.slice (some ⟨b0, off, none⟩) 1 cap1) (.slice ao2 n2 cap2) (.slice ao3 n3 cap3))).drew := Fr.drew _ _
  obtain ⟨c0, c1, c2, c3, c4⟩ := st_box hbx
  have d0 := g0.cellN h0
  have d1 := g0.cellN h1
  have d2 := g0.cellN h2
  have d3 := g0.cellN h3
  have d4 := g0.cellN h4
  have d5 := g0.cellN h5
  have d6 := g0.cellN h6
  clear hT
  go_enter Tryz.func129, Tryz.ntmps129
  go_wp2_with fail
  go_region_held3 (fun w' => w'.cell? ⟨w.heap.size, 1, none⟩ = some (ct name) ∧ w'.cell? ⟨w.heap.size, 2, none⟩ = some (.slice (some ⟨b0, off, none⟩) 1 cap1) ∧ w'.cell? ⟨b0, off, none⟩ = some (ci x.kind) ∧ w'.cell? ⟨b0, off + 1, none⟩ = some (ci x.op) ∧ w'.cell? ⟨b0, off + 2, none⟩ = some (ct x.mod) ∧ w'.cell? ⟨b0, off + 3, none⟩ = some (ct x.name) ∧ w'.cell? ⟨b0, off + 4, none⟩ = some (ci x.vt) ∧ w'.cell? ⟨b0, off + 5, none⟩ = some (.int .u64 x.vb) ∧ w'.cell? ⟨b0, off + 6, none⟩ = some (.slice aok kx.len capk)) (first | (refine ⟨by assumption, by assumption, by assumption, by assumption, by assumption, by assumption, by assumption, by assumption, by assumption⟩) | go_keep) (first
    | (go_at_call 48; refine (ke _ hd0).mono ?_; rintro e wa ⟨rfl, fa⟩; have ga := hd0.same fa; have q1 := ga.cellN c1; have q2 := ga.cellN c2; have y0 := ga.cellN d0; have y1 := ga.cellN d1; have y2 := ga.cellN d2; have y3 := ga.cellN d3; have y4 := ga.cellN d4; have y5 := ga.cellN d5; have y6 := ga.cellN d6)
    | (go_at_call 37; refine (kl wa (hd0.same fa)).mono ?_; rintro e wz ⟨rfl, p2, g2⟩; obtain ⟨b0', b1', b2', b3', b4'⟩ := st_box (bs_keep g2 ((hd0.same fa).heap hbx (fun f => f)) hne (by decide)); have z0 := p2.fr.cellN h0; have z1 := p2.fr.cellN h1; have z2 := p2.fr.cellN h2; have z3 := p2.fr.cellN h3; have z4 := p2.fr.cellN h4; have z5 := p2.fr.cellN h5; have z6 := p2.fr.cellN h6))
  all_goals
    go_wp2_with fail
    go_end0
    exact ⟨rfl, p2, bs_then (f0.same (hd0.same fa)) g2⟩
end Go.Proofs.YteijjaabngkbjaaGreatDoor
