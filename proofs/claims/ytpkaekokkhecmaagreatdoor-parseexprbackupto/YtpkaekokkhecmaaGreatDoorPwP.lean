/- What must come at any rate. -/
import Derived.Test.YtpkaekokkhecmaaGreatDoorPwO
namespace Go.Proofs.YtpkaekokkhecmaaGreatDoor
open Go.RowKit Lx Te
set_option linter.unusedSimpArgs false
set_option linter.unusedVariables false
set_option linter.unusedSectionVars false

set_option maxRecDepth 20000 in
set_option maxHeartbeats 2000000 in
theorem alive7_any (w : World) (ht : F.Tab w) : Calls Tryz.prog 5 #[] w fun e w' => e = .returned (.bool true) ∧ Fr (fun _ => False) w w' := by
  have kA : Calls Tryz.prog 6 #[.string ⟨#[49, 32, 43, 32, 50, 32, 42, 32, 120]⟩] w fun e w' => ∃ ao cap, e = .returned (.tuple #[.agg #[.int .i64 7, .int .i64 1, .string ⟨#[]⟩, .string ⟨#[]⟩, .int .i64 0, .int .u64 0, .slice ao 2 cap], .int .i64 0, .int .i64 0]) ∧ ExL w' ao cap (.cons ⟨1, 0, [], [], 1, 1⟩ .nil (.cons ⟨7, 3, [], [], 0, 0⟩ (.cons ⟨1, 0, [], [], 1, 2⟩ .nil (.cons ⟨2, 0, [], [120], 0, 0⟩ .nil .nil)) .nil)) ∧ Fr (fun _ => False) w w' := xpr_any liveA _ 0 0 (by decide) liveA_is w ht
  have kB : ∀ w, F.Tab w → Calls Tryz.prog 6 #[.string ⟨#[97, 32, 60, 32, 98, 32, 60, 32, 99]⟩] w fun e w' => ∃ ao cap, e = .returned (.tuple #[.agg #[.int .i64 0, .int .i64 0, .string ⟨#[]⟩, .string ⟨#[]⟩, .int .i64 0, .int .u64 0, .slice ao 0 cap], .int .i64 6, .int .i64 11]) ∧ ExL w' ao cap .nil ∧ Fr (fun _ => False) w w' := fun w ht => xpr_any liveB _ 6 11 (by decide) liveB_is w ht
  have kC : ∀ w, F.Tab w → Calls Tryz.prog 11 #[.string ⟨#[109, 111, 100, 117, 108, 101, 32, 109, 59, 32, 102, 110, 32, 102, 40, 97, 58, 32, 105, 110, 116, 41, 58, 32, 98, 111, 111, 108, 32, 123, 32, 114, 101, 116, 117, 114, 110, 32, 97, 32, 62, 32, 48, 59, 32, 125]⟩] w fun e w' => ∃ ao cap ao' cap', e = .returned (.tuple #[.agg #[.string ⟨#[109]⟩, .slice ao 0 cap, .slice ao' 1 cap'], .int .i64 0, .int .i64 0]) ∧ SvL w' ao cap [] ∧ DeL w' ao' cap' [⟨3, false, [102], 3, [⟨[97], 1⟩], .nil, .cons ⟨5, []⟩ (.cons ⟨7, 10, [], [], 0, 0⟩ (.cons ⟨2, 0, [], [97], 0, 0⟩ .nil (.cons ⟨1, 0, [], [], 1, 0⟩ .nil .nil)) .nil) .nil .nil .nil⟩] ∧ Fr (fun _ => False) w w' := fun w ht => par_any liveC _ 0 0 (by decide) liveC_is w ht
  go_enter Tryz.func5, Tryz.ntmps5
  go_wp2_with fail
  go_at_call 6
  refine kA.mono ?_
  rintro e W1 ⟨ao1, cap1, rfl, hx, f1⟩
  obtain ⟨hl1, hm1, h0 | ⟨b1, off1, rfl, hA⟩⟩ := hx
  · simp [Exs.len] at h0
  obtain ⟨_, ⟨ao5, cap5, hc5, _⟩, _⟩ := hA
  have hop : W1.cell? ⟨b1, off1 + 7 + 1, none⟩ = some (.int .i64 3) := hc5 1 _ rfl
  have hm1' : cap1 ≤ 9223372036854775807 := by unfold maxLen at hm1; omega
  have hl1' : 2 ≤ cap1 := hl1
  have fa := Fr.alloc (fun _ => False) W1 (.cells #[.int .i64 7, .int .i64 1, .string ⟨#[]⟩, .string ⟨#[]⟩, .int .i64 0, .int .u64 0, .slice (some ⟨b1, off1, none⟩) 2 cap1] 27)
  have hn1 : Hidden ((W1.alloc (.cells #[.int .i64 7, .int .i64 1, .string ⟨#[]⟩, .string ⟨#[]⟩, .int .i64 0, .int .u64 0, .slice (some ⟨b1, off1, none⟩) 2 cap1] 27)).heap[W1.heap.size]? = some (.cells #[.int .i64 7, .int .i64 1, .string ⟨#[]⟩, .string ⟨#[]⟩, .int .i64 0, .int .u64 0, .slice (some ⟨b1, off1, none⟩) 2 cap1] 27 (0, 0))) := alloc_new _ _
  clear hc5 hl1 hm1
  go_wp2_with fail
  go_at_call 6
  refine (kB _ (tab_fr ht (f1.same fa))).mono ?_
  rintro e W2 ⟨ao2, cap2, rfl, hx2, f2⟩
  have fb := Fr.alloc (fun _ => False) W2 (.cells #[.int .i64 0, .int .i64 0, .string ⟨#[]⟩, .string ⟨#[]⟩, .int .i64 0, .int .u64 0, .slice ao2 0 cap2] 27)
  have g2 := (f1.same fa).same (f2.same fb)
  go_wp2_with fail
  go_at_call 11
  refine (kC _ (tab_fr ht g2)).mono ?_
  rintro e W3 ⟨ao3, cap3, ao4, cap4, rfl, hs3, hd3, f3⟩
  obtain ⟨hl4, hm4, h0 | ⟨b4, off4, rfl, hD⟩⟩ := hd3
  · cases h0
  obtain ⟨pv, ev, bv, ⟨a1, p1, a2, p2, a3, p3, rfl, rfl, rfl, _, _, hst⟩, hcells⟩ := hD 0 _ rfl
  have hbody : W3.cell? ⟨b4, off4 + 6, none⟩ = some (.slice a3 1 p3) := by
    have h := hcells 6 _ rfl
    rw [show off4 + 0 * 7 + 6 = off4 + 6 by omega] at h
    exact h
  have hp3 : p3 ≤ 9223372036854775807 := by have := hst.2.1; unfold maxLen at this; omega
  have hm4' : cap4 ≤ 9223372036854775807 := by unfold maxLen at hm4; omega
  have hl4' : 1 ≤ cap4 := hl4
  have hn3 := f3.heap (fb.heap (f2.heap hn1 (fun f => f)) (fun f => f)) (fun f => f)
  have hop3 := f3.cellN (fb.cellN (f2.cellN (fa.cellN hop)))
  have fc := Fr.alloc (fun _ => False) W3 (.cells #[.string ⟨#[109]⟩, .slice ao3 0 cap3, .slice (some ⟨b4, off4, none⟩) 1 cap4] 44)
  obtain ⟨x0, x1, x2, x3, x4, x5, x6, y0, y1, y2, y3, y4, y5, y6⟩ := box7 (fc.heap hn3 (fun f => f))
  have hop4 := fc.cellN hop3
  have hbody4 := fc.cellN hbody
  clear hcells hD hl4 hm4 y0 y1 y2 y3 y4 y5 y6 hn3 hn1 hop hbody hop3
  go_wp2_with fail
  go_ret
  exact ⟨rfl, (g2.same f3).same fc⟩
end Go.Proofs.YtpkaekokkhecmaaGreatDoor
