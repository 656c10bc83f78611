/- The program's printing of statements and declarations (2): returns. -/
import Derived.Test.YteijjaabngkbjaaGreatDoorPyA
namespace Go.Proofs.YteijjaabngkbjaaGreatDoor
open Go.RowKit Te
set_option linter.unusedSimpArgs false
set_option linter.unusedVariables false

theorem line_new2 (n : Nat) (l : List Bs) (acc T : Bs) (w0 w : World) (B b : Nat) (hw : PW w0 B b acc w) (hn : n ≤ 1000000) (hl9 : l.length ≤ 1000000) (hT : acc ++ Te.pad n ++ l.flatten ++ [10] = T) (hl : T.length ≤ 140737488355328) :
    Calls Tryz.prog 37 #[bp b, ci (n : Int), .slice (some ⟨w.heap.size, 0, none⟩) l.length l.length] (w.alloc (.cells (l.map ct).toArray 9)) fun e w' => e = .returned (.tuple #[]) ∧ PWrote w0 B b T w w' :=
  (line_w n l w.heap.size acc T w0 _ B b (alloc_new _ _) (ne_pbld hw.bld) hn hl9 (hw.quiet (Fr.alloc _ _ _)) hT hl).mono fun e w' h => ⟨h.1, h.2.1, bs_then (Fr.alloc _ _ _) h.2.2⟩
set_option maxRecDepth 20000 in
set_option maxHeartbeats 1000000 in
theorem returns_none (n : Nat) (hn : n ≤ 1000000) (ao : Option Addr) (cap : Nat) (acc T : Bs) (w0 w : World) (B b : Nat) (hw : PW w0 B b acc w) (hT : Hidden (acc ++ (pad n ++ [114, 101, 116, 117, 114, 110, 59, 10]) = T)) (hl : T.length ≤ 140737488355328) :
    Calls Tryz.prog 171 #[bp b, .slice ao 0 cap, ci (n : Int)] w fun e w' => e = .returned (.tuple #[]) ∧ PWrote w0 B b T w w' := by
  have k := line_new2 n [[114, 101, 116, 117, 114, 110, 59]] acc T w0 w B b hw hn (by decide) (by rw [← (show _ = T from hT)]; simp) hl
  go_enter Tryz.func171, Tryz.ntmps171
  go_wp2_with fail
  go_at_call 37
  refine k.mono ?_
  rintro e w1 ⟨rfl, p1⟩
  go_wp2_with fail
  refine bodyPost_ret (results_none rfl _ _ _) rfl ?_
  exact ⟨rfl, p1⟩
set_option maxRecDepth 20000 in
set_option maxHeartbeats 1000000 in
theorem returns_one (n : Nat) (hn : n ≤ 1000000) (h : EH) (k : Exs) (b0 off cap : Nat) (ao1 : Option Addr) (cap1 : Nat) (acc T : Bs) (w0 w : World) (B b : Nat) (ht : F.Tab w) (ho : OkE h) (hx : OkX k) (hs : ShE h k.len) (hsl : ShL k)
    (hk : ExL w ao1 cap1 k) (h0 : w.cell? ⟨b0, off, none⟩ = some (ci h.kind)) (h1 : w.cell? ⟨b0, off + 1, none⟩ = some (ci h.op)) (h2 : w.cell? ⟨b0, off + 2, none⟩ = some (ct h.mod)) (h3 : w.cell? ⟨b0, off + 3, none⟩ = some (ct h.name)) (h4 : w.cell? ⟨b0, off + 4, none⟩ = some (ci h.vt)) (h5 : w.cell? ⟨b0, off + 5, none⟩ = some (.int .u64 h.vb)) (h6 : w.cell? ⟨b0, off + 6, none⟩ = some (.slice ao1 k.len cap1))
    (hw : PW w0 B b acc w) (hT : Hidden (acc ++ (pad n ++ ([114, 101, 116, 117, 114, 110, 32] ++ txA txS h k 1 ++ [59, 10])) = T)) (hl : T.length ≤ 140737488355328) :
    Calls Tryz.prog 171 #[bp b, .slice (some ⟨b0, off, none⟩) 1 cap, ci (n : Int)] w fun e w' => e = .returned (.tuple #[]) ∧ PWrote w0 B b T w w' := by
  have hlen : (txA txS h k 1).length ≤ 140737488355328 := by
    have := congrArg List.length (show _ = T from hT)
    simp only [List.length_append] at this
    omega
  have ke := exprText_any h k (exV h (.slice ao1 k.len cap1)) w ho hx hs hsl ⟨ao1, cap1, rfl, hk⟩ ht hlen
  generalize txA txS h k 1 = E at ke hT hlen
  go_enter Tryz.func171, Tryz.ntmps171
  go_wp2_with fail
  go_at_call 48
  refine ke.mono ?_
  rintro e w1 ⟨rfl, f1⟩
  have kl := line_new2 n [[114, 101, 116, 117, 114, 110, 32], E, [59]] acc T w0 w1 B b (hw.quiet f1) hn (by simp) (by rw [← (show _ = T from hT)]; simp) hl
  go_wp2_with fail
  go_at_call 37
  refine kl.mono ?_
  rintro e w2 ⟨rfl, p2, g2⟩
  go_wp2_with fail
  go_end0
  exact ⟨rfl, p2, bs_then f1 g2⟩
end Go.Proofs.YteijjaabngkbjaaGreatDoor
