/- The program's printing of statements and declarations (5): try, return. -/
import Derived.Test.YteijjaabngkbjaaGreatDoorPyC
import Derived.Test.YteijjaabngkbjaaGreatDoorPsW
namespace Go.Proofs.YteijjaabngkbjaaGreatDoor
open Go.RowKit Te
set_option linter.unusedSimpArgs false
set_option linter.unusedVariables false

set_option maxRecDepth 20000 in
set_option maxHeartbeats 4000000 in
theorem stmt_8 (n : Nat) (hn : n ≤ 1000000) (name : Bs) (acc T : Bs) (w0 w : World) (B b : Nat) (ht : F.Tab w0) (hw : PW w0 B b acc w) (ao2 ao3 : Option Addr) (bo el : Sts) (cap2 cap3 : Nat) (ao1 : Option Addr) (cap1 : Nat) (hB : BlkW bo (n + 1)) (hbo : StL w0 ao2 cap2 bo) (hL : BlkW el (n + 1)) (hel : StL w0 ao3 cap3 el)
    (hT : Hidden (acc ++ (pad n ++ [116, 114, 121, 32, 123, 10] ++ stT txS bo (n + 1) ++ (pad n ++ ([125, 32, 99, 97, 116, 99, 104, 32] ++ name ++ [32, 123, 10])) ++ stT txS el (n + 1) ++ (pad n ++ [125, 10])) = T)) (hl : T.length ≤ 140737488355328) :
    Calls Tryz.prog 129 #[bp b, stV ⟨8, name⟩ (.slice ao1 0 cap1) (.slice ao2 bo.len cap2) (.slice ao3 el.len cap3), ci (n : Int)] w fun e w' => e = .returned (.tuple #[]) ∧ PWrote w0 B b T w w' := by
  have f0 := Fr.alloc (fun _ => False) w (stO 8 name (.slice ao1 0 cap1) (.slice ao2 bo.len cap2) (.slice ao3 el.len cap3))
  have hbx : Hidden ((w.alloc (stO 8 name (.slice ao1 0 cap1) (.slice ao2 bo.len cap2) (.slice ao3 el.len cap3))).heap[w.heap.size]? = some (stO 8 name (.slice ao1 0 cap1) (.slice ao2 bo.len cap2) (.slice ao3 el.len cap3))) := alloc_new _ _
  have g0 := hw.fr.same f0
  have hne := ne_pbld hw.bld
  have m2 : cap2 ≤ 9223372036854775807 := by have := hbo.2.1; unfold maxLen at this; omega
  have m2' := hbo.1
  have m3 : cap3 ≤ 9223372036854775807 := by have := hel.2.1; unfold maxLen at this; omega
  have m3' := hel.1
  obtain ⟨T1, hT1'⟩ : ∃ T1, acc ++ Te.pad n ++ [[116, 114, 121, 32, 123]].flatten ++ [10] = T1 := ⟨_, rfl⟩
  have hT1 : Hidden (acc ++ Te.pad n ++ [[116, 114, 121, 32, 123]].flatten ++ [10] = T1) := hT1'
  clear hT1'
  have rT1 : Hidden (T1 ++ (stT txS bo (n + 1) ++ ((pad n ++ ([125, 32, 99, 97, 116, 99, 104, 32] ++ name ++ [32, 123, 10])) ++ (stT txS el (n + 1) ++ (pad n ++ [125, 10])))) = T) := by
    show _ = T
    rw [← (show _ = T from hT), ← (show _ = T1 from hT1)]
    simp
  have lT1 : T1.length ≤ 140737488355328 := app_le (show _ = T from rT1) hl
  obtain ⟨T2, hT2'⟩ : ∃ T2, T1 ++ stT txS bo (n + 1) = T2 := ⟨_, rfl⟩
  have hT2 : Hidden (T1 ++ stT txS bo (n + 1) = T2) := hT2'
  clear hT2'
  have rT2 : Hidden (T2 ++ ((pad n ++ ([125, 32, 99, 97, 116, 99, 104, 32] ++ name ++ [32, 123, 10])) ++ (stT txS el (n + 1) ++ (pad n ++ [125, 10]))) = T) := by
    show _ = T
    rw [← (show _ = T from rT1), ← (show _ = T2 from hT2)]
    simp
  have lT2 : T2.length ≤ 140737488355328 := app_le (show _ = T from rT2) hl
  obtain ⟨T3, hT3'⟩ : ∃ T3, T2 ++ Te.pad n ++ [[125, 32, 99, 97, 116, 99, 104, 32], name, [32, 123]].flatten ++ [10] = T3 := ⟨_, rfl⟩
  have hT3 : Hidden (T2 ++ Te.pad n ++ [[125, 32, 99, 97, 116, 99, 104, 32], name, [32, 123]].flatten ++ [10] = T3) := hT3'
  clear hT3'
  have rT3 : Hidden (T3 ++ (stT txS el (n + 1) ++ (pad n ++ [125, 10])) = T) := by
    show _ = T
    rw [← (show _ = T from rT2), ← (show _ = T3 from hT3)]
    simp
  have lT3 : T3.length ≤ 140737488355328 := app_le (show _ = T from rT3) hl
  obtain ⟨T4, hT4'⟩ : ∃ T4, T3 ++ stT txS el (n + 1) = T4 := ⟨_, rfl⟩
  have hT4 : Hidden (T3 ++ stT txS el (n + 1) = T4) := hT4'
  clear hT4'
  have rT4 : Hidden (T4 ++ (pad n ++ [125, 10]) = T) := by
    show _ = T
    rw [← (show _ = T from rT3), ← (show _ = T4 from hT4)]
    simp
  have lT4 : T4.length ≤ 140737488355328 := app_le (show _ = T from rT4) hl
  clear hT
  have kl := line_new2 n [[116, 114, 121, 32, 123]] acc T1 w0 (w.alloc (stO 8 name (.slice ao1 0 cap1) (.slice ao2 bo.len cap2) (.slice ao3 el.len cap3))) B b (hw.quiet f0) hn (by simp) hT1 lT1
  rw [show (w.alloc (stO 8 name (.slice ao1 0 cap1) (.slice ao2 bo.len cap2) (.slice ao3 el.len cap3))).heap.size = w.heap.size + 1 by simp] at kl
  go_enter Tryz.func129, Tryz.ntmps129
  go_wp2_with fail
  go_at_call 37
  refine kl.mono ?_
  rintro e w2 ⟨rfl, p2, g2⟩
  have hb2 := bs_keep g2 hbx hne (by decide)
  obtain ⟨c0, c1, c2, c3, c4⟩ := st_box hb2
  have kbw3 := hB ((n : Int) + 1) (by omega) ao2 cap2 w0 w2 B b T1 T2 hbo ht p2 hT2 lT2
  go_wp2_with fail
  go_at_call 82
  refine kbw3.mono ?_
  rintro e w3 ⟨rfl, pw3, g3⟩
  have hb3 := bs_keep g3 hb2 hne (by decide)
  obtain ⟨c0, c1, c2, c3, c4⟩ := st_box hb3
  have ke2 := line_new2 n [[125, 32, 99, 97, 116, 99, 104, 32], name, [32, 123]] T2 T3 w0 w3 B b (pw3) hn (by simp) (hT3) lT3
  go_wp2_with fail
  go_at_call 37
  refine ke2.mono ?_
  rintro e w4 ⟨rfl, p4, g4⟩
  obtain ⟨c0, c1, c2, c3, c4⟩ := st_box (bs_keep g4 hb3 hne (by decide))
  have kbw5 := hL ((n : Int) + 1) (by omega) ao3 cap3 w0 w4 B b T3 T4 hel ht p4 hT4 lT4
  go_wp2_with fail
  go_at_call 82
  refine kbw5.mono ?_
  rintro e w5 ⟨rfl, pw5, g5⟩
  have kz := line_new2 n [[125]] T4 T w0 w5 B b (pw5) hn (by simp) (by rw [← (show _ = T from rT4)]; simp) hl
  go_wp2_with fail
  go_at_call 37
  refine kz.mono ?_
  rintro e w6 ⟨rfl, p6, g6⟩
  go_wp2_with fail
  go_end0
  exact ⟨rfl, p6, bs_then f0 (bs_trans g2 (bs_trans g3 (bs_trans g4 (bs_trans g5 g6))))⟩
set_option maxRecDepth 20000 in
set_option maxHeartbeats 4000000 in
theorem stmt_5a (n : Nat) (hn : n ≤ 1000000) (name : Bs) (acc T : Bs) (w0 w : World) (B b : Nat) (ht : F.Tab w0) (hw : PW w0 B b acc w) (ao2 ao3 : Option Addr) (bo el : Sts) (cap2 cap3 : Nat) (ao1 : Option Addr) (cap1 : Nat)
    (hT : Hidden (acc ++ (pad n ++ [114, 101, 116, 117, 114, 110, 59, 10]) = T)) (hl : T.length ≤ 140737488355328) :
    Calls Tryz.prog 129 #[bp b, stV ⟨5, name⟩ (.slice ao1 0 cap1) (.slice ao2 bo.len cap2) (.slice ao3 el.len cap3), ci (n : Int)] w fun e w' => e = .returned (.tuple #[]) ∧ PWrote w0 B b T w w' := by
  have f0 := Fr.alloc (fun _ => False) w (stO 5 name (.slice ao1 0 cap1) (.slice ao2 bo.len cap2) (.slice ao3 el.len cap3))
  have hbx : Hidden ((w.alloc (stO 5 name (.slice ao1 0 cap1) (.slice ao2 bo.len cap2) (.slice ao3 el.len cap3))).heap[w.heap.size]? = some (stO 5 name (.slice ao1 0 cap1) (.slice ao2 bo.len cap2) (.slice ao3 el.len cap3))) := alloc_new _ _
  have g0 := hw.fr.same f0
  have hne := ne_pbld hw.bld
  have kr := returns_none n hn ao1 cap1 acc T w0 (w.alloc (stO 5 name (.slice ao1 0 cap1) (.slice ao2 bo.len cap2) (.slice ao3 el.len cap3))) B b (hw.quiet f0) hT hl
  clear hT
  go_enter Tryz.func129, Tryz.ntmps129
  go_wp2_with fail
  go_at_call 171
  refine kr.mono ?_
  rintro e w2 ⟨rfl, p2, g2⟩
  go_wp2_with fail
  go_end0
  exact ⟨rfl, p2, bs_then f0 g2⟩
set_option maxRecDepth 20000 in
set_option maxHeartbeats 4000000 in
theorem stmt_5b (n : Nat) (hn : n ≤ 1000000) (name : Bs) (acc T : Bs) (w0 w : World) (B b : Nat) (ht : F.Tab w0) (hw : PW w0 B b acc w) (ao2 ao3 : Option Addr) (bo el : Sts) (cap2 cap3 : Nat) (x : EH) (kx : Exs) (b0 off cap1 : Nat) (aok : Option Addr) (capk : Nat) (ho : OkE x) (hx : OkX kx) (hs : ShE x kx.len) (hsl : ShL kx)
    (hk : ExL w0 aok capk kx) (h0 : w0.cell? ⟨b0, off, none⟩ = some (ci x.kind)) (h1 : w0.cell? ⟨b0, off + 1, none⟩ = some (ci x.op)) (h2 : w0.cell? ⟨b0, off + 2, none⟩ = some (ct x.mod)) (h3 : w0.cell? ⟨b0, off + 3, none⟩ = some (ct x.name)) (h4 : w0.cell? ⟨b0, off + 4, none⟩ = some (ci x.vt)) (h5 : w0.cell? ⟨b0, off + 5, none⟩ = some (.int .u64 x.vb)) (h6 : w0.cell? ⟨b0, off + 6, none⟩ = some (.slice aok kx.len capk))
    (hT : Hidden (acc ++ (pad n ++ ([114, 101, 116, 117, 114, 110, 32] ++ txA txS x kx 1 ++ [59, 10])) = T)) (hl : T.length ≤ 140737488355328) :
    Calls Tryz.prog 129 #[bp b, stV ⟨5, name⟩ (.slice (some ⟨b0, off, none⟩) 1 cap1) (.slice ao2 bo.len cap2) (.slice ao3 el.len cap3), ci (n : Int)] w fun e w' => e = .returned (.tuple #[]) ∧ PWrote w0 B b T w w' := by
  have f0 := Fr.alloc (fun _ => False) w (stO 5 name (.slice (some ⟨b0, off, none⟩) 1 cap1) (.slice ao2 bo.len cap2) (.slice ao3 el.len cap3))
  have hbx : Hidden ((w.alloc (stO 5 name (.slice (some ⟨b0, off, none⟩) 1 cap1) (.slice ao2 bo.len cap2) (.slice ao3 el.len cap3))).heap[w.heap.size]? = some (stO 5 name (.slice (some ⟨b0, off, none⟩) 1 cap1) (.slice ao2 bo.len cap2) (.slice ao3 el.len cap3))) := alloc_new _ _
  have g0 := hw.fr.same f0
  have hne := ne_pbld hw.bld
  have d0 := g0.cellN h0
  have d1 := g0.cellN h1
  have d2 := g0.cellN h2
  have d3 := g0.cellN h3
  have d4 := g0.cellN h4
  have d5 := g0.cellN h5
  have d6 := g0.cellN h6
  have kr := returns_one n hn x kx b0 off cap1 aok capk acc T w0 (w.alloc (stO 5 name (.slice (some ⟨b0, off, none⟩) 1 cap1) (.slice ao2 bo.len cap2) (.slice ao3 el.len cap3))) B b (tab_fr ht g0) ho hx hs hsl (hk.keep g0) d0 d1 d2 d3 d4 d5 d6 (hw.quiet f0) hT hl
  clear hT d0 d1 d2 d3 d4 d5 d6
  go_enter Tryz.func129, Tryz.ntmps129
  go_wp2_with fail
  go_at_call 171
  refine kr.mono ?_
  rintro e w2 ⟨rfl, p2, g2⟩
  go_wp2_with fail
  go_end0
  exact ⟨rfl, p2, bs_then f0 g2⟩
end Go.Proofs.YteijjaabngkbjaaGreatDoor
