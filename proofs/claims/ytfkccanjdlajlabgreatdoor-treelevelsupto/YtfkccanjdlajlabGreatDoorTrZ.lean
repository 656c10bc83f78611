/- The law TreeLevels. -/
import Derived.Test.YtfkccanjdlajlabGreatDoorTrTAll
import Derived.Test.YtfkccanjdlajlabGreatDoorTrB
namespace Go.Proofs.YtfkccanjdlajlabGreatDoor
open Go.RowKit Te
set_option linter.unusedSimpArgs false
set_option linter.unusedVariables false

theorem catv (a b c : Bs) (hc : a ++ b = c) (h : c.length ≤ 9223372036854775807) (w : World) : (Op.stringOp .add ⟨a.toArray⟩ ⟨b.toArray⟩).run Tryz.prog w = .ok (.string ⟨c.toArray⟩) w := by
  subst hc
  rw [List.length_append] at h
  rw [run_string_add_sum w _ _ (by simp [ByteArray.size]; omega)]
  exact congrArg (fun x => Result.ok (Value.string x) w) (N.append_str a b)
theorem catS (a b : Bs) (h : a.length + b.length ≤ 9223372036854775807) (w : World) : (Op.stringOp .add ⟨a.toArray⟩ ⟨b.toArray⟩).run Tryz.prog w = .ok (.string ⟨(a ++ b).toArray⟩) w := by
  rw [run_string_add_sum w _ _ (by simp [ByteArray.size]; omega)]
  exact congrArg (fun x => Result.ok (Value.string x) w) (N.append_str a b)
def mkN (n : Nat) : Bs := if n = 1 then [43] else if n = 2 then [45] else if n = 3 then [42] else if n = 4 then [47] else if n = 5 then [37] else if n = 6 then [61, 61] else if n = 7 then [33, 61] else if n = 8 then [60] else if n = 9 then [60, 61] else if n = 10 then [62] else if n = 11 then [62, 61] else if n = 12 then [38, 38] else [124, 124]
theorem mark_mkN (n : Nat) (h0 : 1 ≤ n) (h1 : n ≤ 13) : Te.mark (n : Int) = [32] ++ mkN n ++ [32] := by
  obtain rfl | rfl | rfl | rfl | rfl | rfl | rfl | rfl | rfl | rfl | rfl | rfl | rfl : n = 1 ∨ n = 2 ∨ n = 3 ∨ n = 4 ∨ n = 5 ∨ n = 6 ∨ n = 7 ∨ n = 8 ∨ n = 9 ∨ n = 10 ∨ n = 11 ∨ n = 12 ∨ n = 13 := by omega
  all_goals decide
theorem mk_len (n : Nat) : (mkN n).length ≤ 2 := by
  unfold mkN
  repeat' split
  all_goals simp
theorem marks_cell (w : World) (n : Nat) (h0 : 1 ≤ n) (h1 : n ≤ 13) : (w.alloc (.cells #[.string ⟨#[]⟩, .string ⟨#[43]⟩, .string ⟨#[45]⟩, .string ⟨#[42]⟩, .string ⟨#[47]⟩, .string ⟨#[37]⟩, .string ⟨#[61, 61]⟩, .string ⟨#[33, 61]⟩, .string ⟨#[60]⟩, .string ⟨#[60, 61]⟩, .string ⟨#[62]⟩, .string ⟨#[62, 61]⟩, .string ⟨#[38, 38]⟩, .string ⟨#[124, 124]⟩] 9)).cell? ⟨w.heap.size, n, none⟩ = some (ct (mkN n)) := by
  have hb : (w.alloc (.cells #[.string ⟨#[]⟩, .string ⟨#[43]⟩, .string ⟨#[45]⟩, .string ⟨#[42]⟩, .string ⟨#[47]⟩, .string ⟨#[37]⟩, .string ⟨#[61, 61]⟩, .string ⟨#[33, 61]⟩, .string ⟨#[60]⟩, .string ⟨#[60, 61]⟩, .string ⟨#[62]⟩, .string ⟨#[62, 61]⟩, .string ⟨#[38, 38]⟩, .string ⟨#[124, 124]⟩] 9)).heap[w.heap.size]? = some (.cells #[.string ⟨#[]⟩, .string ⟨#[43]⟩, .string ⟨#[45]⟩, .string ⟨#[42]⟩, .string ⟨#[47]⟩, .string ⟨#[37]⟩, .string ⟨#[61, 61]⟩, .string ⟨#[33, 61]⟩, .string ⟨#[60]⟩, .string ⟨#[60, 61]⟩, .string ⟨#[62]⟩, .string ⟨#[62, 61]⟩, .string ⟨#[38, 38]⟩, .string ⟨#[124, 124]⟩] 9 (0, 0)) := alloc_new _ _
  rw [cell_of_row _ _ n _ _ _ hb]
  obtain rfl | rfl | rfl | rfl | rfl | rfl | rfl | rfl | rfl | rfl | rfl | rfl | rfl : n = 1 ∨ n = 2 ∨ n = 3 ∨ n = 4 ∨ n = 5 ∨ n = 6 ∨ n = 7 ∨ n = 8 ∨ n = 9 ∨ n = 10 ∨ n = 11 ∨ n = 12 ∨ n = 13 := by omega
  all_goals rfl
set_option maxRecDepth 20000 in
set_option maxHeartbeats 8000000 in
theorem treeLevels.walk (va : Value) (h1 : EH) (k1 : Exs) (vb : Value) (h2 : EH) (k2 : Exs) (op : Int) (w : World) (e1 : ExI w h1 k1 va) (o1 : OkE h1) (o2 : OkX k1) (hl1 : h1.mod.length + h1.name.length + In.bkX k1 ≤ 1048576) (e2 : ExI w h2 k2 vb) (o3 : OkE h2) (o4 : OkX k2) (hl2 : h2.mod.length + h2.name.length + In.bkX k2 ≤ 1048576) (hop : (Lit.int .i64 op).wf = true) (ht : F.Tab w) :
    Calls Tryz.prog 6 #[va, vb, ci op] w fun e w' => e = .returned (.bool true) ∧ Fr (fun _ => False) w w' := by
  have hop2 : -9223372036854775808 ≤ op ∧ op ≤ 9223372036854775807 := by simpa [Lit.wf, IntKind.min, IntKind.max, IntKind.signed, IntKind.bits] using hop
  have kt1 := fun (w1 : World) (f : Fr (fun _ => False) w w1) => text_x h1 k1 va w1 o1 o2 (e1.keep f) (tab_fr ht f) _ _ rfl rfl (fun he => by have := err_text h1 k1 o1 o2 (by omega) he; omega)
  have kt2 := fun (w1 : World) (f : Fr (fun _ => False) w w1) => text_x h2 k2 vb w1 o3 o4 (e2.keep f) (tab_fr ht f) _ _ rfl rfl (fun he => by have := err_text h2 k2 o3 o4 (by omega) he; omega)
  have kbin := fun (w1 : World) (f : Fr (fun _ => False) w w1) => bin_any6 op h1 h2 k1 k2 va vb w1 (e1.keep f) (e2.keep f)
  have hbo : OkE (bh op) := ⟨show I64 7 by unfold I64; omega, hop2, by unfold I64; simp, by simp, by simp, by simp [OkN], by simp [OkN]⟩
  have ho3 : OkX (two2 h1 k1 h2 k2) := ⟨o1, o2, o3, o4, trivial⟩
  have hbad := two_bad rnS cnS op h1 h2 k1 k2
  have hgood := two_good rnS cnS op h1 h2 k1 k2
  have hl3 : errX rnS cnS (bh op) (two2 h1 k1 h2 k2) = 0 → (bare txS (bh op) (two2 h1 k1 h2 k2)).length ≤ 140737488355328 := by
    intro he
    have := err_text (bh op) (two2 h1 k1 h2 k2) hbo ho3 (by simp only [In.bkX]; simp; omega) he
    omega
  obtain ⟨ao1, cap1, rfl, l1⟩ := e1
  obtain ⟨ao2, cap2, rfl, l2⟩ := e2
  have f0 : Fr (fun _ => False) w ((w.alloc (.cells #[ci h1.kind, ci h1.op, ct h1.mod, ct h1.name, ci h1.vt, .int .u64 h1.vb, .slice ao1 k1.len cap1] 44)).alloc (.cells #[ci h2.kind, ci h2.op, ct h2.mod, ct h2.name, ci h2.vt, .int .u64 h2.vb, .slice ao2 k2.len cap2] 44)) := (Fr.alloc _ _ _).same (Fr.alloc _ _ _)
  have x1 : Hidden (((w.alloc (.cells #[ci h1.kind, ci h1.op, ct h1.mod, ct h1.name, ci h1.vt, .int .u64 h1.vb, .slice ao1 k1.len cap1] 44)).alloc (.cells #[ci h2.kind, ci h2.op, ct h2.mod, ct h2.name, ci h2.vt, .int .u64 h2.vb, .slice ao2 k2.len cap2] 44)).heap[w.heap.size]? = some (.cells #[ci h1.kind, ci h1.op, ct h1.mod, ct h1.name, ci h1.vt, .int .u64 h1.vb, .slice ao1 k1.len cap1] 44 (0, 0))) := (Fr.alloc (fun _ => False) _ _).heap (alloc_new _ _) (fun f => f)
  have x2 : Hidden (((w.alloc (.cells #[ci h1.kind, ci h1.op, ct h1.mod, ct h1.name, ci h1.vt, .int .u64 h1.vb, .slice ao1 k1.len cap1] 44)).alloc (.cells #[ci h2.kind, ci h2.op, ct h2.mod, ct h2.name, ci h2.vt, .int .u64 h2.vb, .slice ao2 k2.len cap2] 44)).heap[w.heap.size + 1]? = some (.cells #[ci h2.kind, ci h2.op, ct h2.mod, ct h2.name, ci h2.vt, .int .u64 h2.vb, .slice ao2 k2.len cap2] 44 (0, 0))) := (congrArg _ (by simp)).trans (alloc_new _ _)
  obtain ⟨E1, hE1⟩ : ∃ E1, errX rnS cnS h1 k1 = E1 := ⟨_, rfl⟩
  obtain ⟨E2, hE2⟩ : ∃ E2, errX rnS cnS h2 k2 = E2 := ⟨_, rfl⟩
  rw [hE1] at kt1 hbad hgood
  rw [hE2] at kt2 hbad hgood
  by_cases hb : E1 ≠ 0 ∨ E2 ≠ 0 ∨ ¬ (1 ≤ op ∧ op ≤ 13)
  · have hE3 := hbad hb
    obtain ⟨E3, hE3e⟩ : ∃ E3, errX rnS cnS (bh op) (two2 h1 k1 h2 k2) = E3 := ⟨_, rfl⟩
    rw [hE3e] at hE3
    have hx0 : (E3 != 0) = true := by simpa using hE3
    have hx1 : (E3 == 0) = false := by simpa using hE3
    have hbc : ((E1 != 0) = true) ∨ (E1 = 0 ∧ (E2 != 0) = true) ∨ (E1 = 0 ∧ E2 = 0 ∧ op < 1) ∨ (E1 = 0 ∧ E2 = 0 ∧ ¬ op < 1 ∧ 13 < op) := by
      by_cases c1 : E1 = 0
      · by_cases c2 : E2 = 0
        · by_cases c3 : op < 1
          · exact Or.inr (Or.inr (Or.inl ⟨c1, c2, c3⟩))
          · exact Or.inr (Or.inr (Or.inr ⟨c1, c2, c3, by omega⟩))
        · exact Or.inr (Or.inl ⟨c1, by simpa using c2⟩)
      · exact Or.inl (by simpa using c1)
    clear hbad hgood hb hE1 hE2
    generalize (if E1 = 0 then bare txS h1 k1 else []) = S1 at kt1
    generalize (if E2 = 0 then bare txS h2 k2 else []) = S2 at kt2
    rcases hbc with c | ⟨rfl, c⟩ | ⟨rfl, rfl, c⟩ | ⟨rfl, rfl, c, c'⟩
    · go_enter Tryz.func6, Tryz.ntmps6
      go_wp2_with fail
      go_at_call 8
      refine (live_any _ (tab_fr ht f0)).mono ?_
      rintro e w1 ⟨rfl, f1⟩
      have g1 := f0.same f1
      obtain ⟨a0, a1, a2, a3, a4, a5, a6⟩ := ex_box (f1.heap x1 (fun f => f))
      go_wp2_with fail
      go_at_call 15
      refine (kt1 _ g1).mono ?_
      rintro e w2 ⟨rfl, f2⟩
      have g2 := g1.same f2
      obtain ⟨b0, b1, b2, b3, b4, b5, b6⟩ := ex_box (f2.heap (f1.heap x2 (fun f => f)) (fun f => f))
      go_wp2_with fail
      go_at_call 15
      refine (kt2 _ g2).mono ?_
      rintro e w3 ⟨rfl, f3⟩
      have g3 := g2.same f3
      obtain ⟨a0, a1, a2, a3, a4, a5, a6⟩ := ex_box (f3.heap (f2.heap (f1.heap x1 (fun f => f)) (fun f => f)) (fun f => f))
      obtain ⟨b0, b1, b2, b3, b4, b5, b6⟩ := ex_box (f3.heap (f2.heap (f1.heap x2 (fun f => f)) (fun f => f)) (fun f => f))
      go_wp2_with fail
      go_at_call 16
      refine (kbin _ g3).mono ?_
      rintro e w4 ⟨⟨v, rfl, hv⟩, f4⟩
      have g4 := g3.same f4
      have kt3 := text_x (bh op) (two2 h1 k1 h2 k2) v w4 hbo ho3 hv (tab_fr ht g4) _ _ rfl rfl hl3
      rw [hE3e, if_neg hE3] at kt3
      obtain ⟨vo, vc, rfl, _⟩ := hv
      go_wp2_with fail
      go_at_call 15
      refine kt3.mono ?_
      rintro e w5 ⟨rfl, f5⟩
      have g5 := g4.same f5
      go_wp2_with fail
      go_ret
      exact ⟨rfl, g5⟩
    · go_enter Tryz.func6, Tryz.ntmps6
      go_wp2_with fail
      go_at_call 8
      refine (live_any _ (tab_fr ht f0)).mono ?_
      rintro e w1 ⟨rfl, f1⟩
      have g1 := f0.same f1
      obtain ⟨a0, a1, a2, a3, a4, a5, a6⟩ := ex_box (f1.heap x1 (fun f => f))
      go_wp2_with fail
      go_at_call 15
      refine (kt1 _ g1).mono ?_
      rintro e w2 ⟨rfl, f2⟩
      have g2 := g1.same f2
      obtain ⟨b0, b1, b2, b3, b4, b5, b6⟩ := ex_box (f2.heap (f1.heap x2 (fun f => f)) (fun f => f))
      go_wp2_with fail
      go_at_call 15
      refine (kt2 _ g2).mono ?_
      rintro e w3 ⟨rfl, f3⟩
      have g3 := g2.same f3
      obtain ⟨a0, a1, a2, a3, a4, a5, a6⟩ := ex_box (f3.heap (f2.heap (f1.heap x1 (fun f => f)) (fun f => f)) (fun f => f))
      obtain ⟨b0, b1, b2, b3, b4, b5, b6⟩ := ex_box (f3.heap (f2.heap (f1.heap x2 (fun f => f)) (fun f => f)) (fun f => f))
      go_wp2_with fail
      go_at_call 16
      refine (kbin _ g3).mono ?_
      rintro e w4 ⟨⟨v, rfl, hv⟩, f4⟩
      have g4 := g3.same f4
      have kt3 := text_x (bh op) (two2 h1 k1 h2 k2) v w4 hbo ho3 hv (tab_fr ht g4) _ _ rfl rfl hl3
      rw [hE3e, if_neg hE3] at kt3
      obtain ⟨vo, vc, rfl, _⟩ := hv
      go_wp2_with fail
      go_at_call 15
      refine kt3.mono ?_
      rintro e w5 ⟨rfl, f5⟩
      have g5 := g4.same f5
      go_wp2_with fail
      go_ret
      exact ⟨rfl, g5⟩
    · go_enter Tryz.func6, Tryz.ntmps6
      go_wp2_with fail
      go_at_call 8
      refine (live_any _ (tab_fr ht f0)).mono ?_
      rintro e w1 ⟨rfl, f1⟩
      have g1 := f0.same f1
      obtain ⟨a0, a1, a2, a3, a4, a5, a6⟩ := ex_box (f1.heap x1 (fun f => f))
      go_wp2_with fail
      go_at_call 15
      refine (kt1 _ g1).mono ?_
      rintro e w2 ⟨rfl, f2⟩
      have g2 := g1.same f2
      obtain ⟨b0, b1, b2, b3, b4, b5, b6⟩ := ex_box (f2.heap (f1.heap x2 (fun f => f)) (fun f => f))
      go_wp2_with fail
      go_at_call 15
      refine (kt2 _ g2).mono ?_
      rintro e w3 ⟨rfl, f3⟩
      have g3 := g2.same f3
      obtain ⟨a0, a1, a2, a3, a4, a5, a6⟩ := ex_box (f3.heap (f2.heap (f1.heap x1 (fun f => f)) (fun f => f)) (fun f => f))
      obtain ⟨b0, b1, b2, b3, b4, b5, b6⟩ := ex_box (f3.heap (f2.heap (f1.heap x2 (fun f => f)) (fun f => f)) (fun f => f))
      go_wp2_with fail
      go_at_call 16
      refine (kbin _ g3).mono ?_
      rintro e w4 ⟨⟨v, rfl, hv⟩, f4⟩
      have g4 := g3.same f4
      have kt3 := text_x (bh op) (two2 h1 k1 h2 k2) v w4 hbo ho3 hv (tab_fr ht g4) _ _ rfl rfl hl3
      rw [hE3e, if_neg hE3] at kt3
      obtain ⟨vo, vc, rfl, _⟩ := hv
      go_wp2_with fail
      go_at_call 15
      refine kt3.mono ?_
      rintro e w5 ⟨rfl, f5⟩
      have g5 := g4.same f5
      go_wp2_with fail
      go_ret
      exact ⟨rfl, g5⟩
    · go_enter Tryz.func6, Tryz.ntmps6
      go_wp2_with fail
      go_at_call 8
      refine (live_any _ (tab_fr ht f0)).mono ?_
      rintro e w1 ⟨rfl, f1⟩
      have g1 := f0.same f1
      obtain ⟨a0, a1, a2, a3, a4, a5, a6⟩ := ex_box (f1.heap x1 (fun f => f))
      go_wp2_with fail
      go_at_call 15
      refine (kt1 _ g1).mono ?_
      rintro e w2 ⟨rfl, f2⟩
      have g2 := g1.same f2
      obtain ⟨b0, b1, b2, b3, b4, b5, b6⟩ := ex_box (f2.heap (f1.heap x2 (fun f => f)) (fun f => f))
      go_wp2_with fail
      go_at_call 15
      refine (kt2 _ g2).mono ?_
      rintro e w3 ⟨rfl, f3⟩
      have g3 := g2.same f3
      obtain ⟨a0, a1, a2, a3, a4, a5, a6⟩ := ex_box (f3.heap (f2.heap (f1.heap x1 (fun f => f)) (fun f => f)) (fun f => f))
      obtain ⟨b0, b1, b2, b3, b4, b5, b6⟩ := ex_box (f3.heap (f2.heap (f1.heap x2 (fun f => f)) (fun f => f)) (fun f => f))
      go_wp2_with fail
      go_at_call 16
      refine (kbin _ g3).mono ?_
      rintro e w4 ⟨⟨v, rfl, hv⟩, f4⟩
      have g4 := g3.same f4
      have kt3 := text_x (bh op) (two2 h1 k1 h2 k2) v w4 hbo ho3 hv (tab_fr ht g4) _ _ rfl rfl hl3
      rw [hE3e, if_neg hE3] at kt3
      obtain ⟨vo, vc, rfl, _⟩ := hv
      go_wp2_with fail
      go_at_call 15
      refine kt3.mono ?_
      rintro e w5 ⟨rfl, f5⟩
      have g5 := g4.same f5
      go_wp2_with fail
      go_ret
      exact ⟨rfl, g5⟩
  · simp only [not_or, ne_eq, Decidable.not_not] at hb
    obtain ⟨c1, c2, q0, q1⟩ := hb
    subst c1 c2
    rw [if_pos rfl] at kt1 kt2
    have hE3 := hgood rfl rfl ⟨q0, q1⟩
    clear hbad hgood
    have m1 := err_text h1 k1 o1 o2 (by omega) hE1
    have m2 := err_text h2 k2 o3 o4 (by omega) hE2
    have hTT := two_text txS op h1 h2 k1 k2
    clear hE1 hE2
    rcases hE3 with hE3 | hE3
    · obtain ⟨n, rfl⟩ : ∃ n : Nat, op = (n : Int) := ⟨op.toNat, by omega⟩
      rw [mark_mkN n (by omega) (by omega)] at hTT
      have hml := mk_len n
      obtain ⟨S, hS⟩ : ∃ S, bare txS h1 k1 = S := ⟨_, rfl⟩
      obtain ⟨T, hT⟩ : ∃ T, bare txS h2 k2 = T := ⟨_, rfl⟩
      obtain ⟨U, hU⟩ : ∃ U, bare txS (bh (n : Int)) (two2 h1 k1 h2 k2) = U := ⟨_, rfl⟩
      rw [hS] at kt1 hTT m1
      rw [hT] at kt2 hTT m2
      rw [hU] at hTT
      have hcase : Hidden (U = S ++ ([32] ++ mkN n ++ [32]) ++ T) ∨ Hidden (U = [40] ++ S ++ [41] ++ ([32] ++ mkN n ++ [32]) ++ T) ∨ Hidden (U = S ++ ([32] ++ mkN n ++ [32]) ++ [40] ++ T ++ [41]) ∨ Hidden (U = [40] ++ S ++ [41] ++ ([32] ++ mkN n ++ [32]) ++ [40] ++ T ++ [41]) := by
        generalize decide (level h1 < kidL (bh (n : Int)) true) = b1 at hTT
        generalize decide (level h2 < kidL (bh (n : Int)) false) = b2 at hTT
        cases b1 <;> cases b2 <;> simp [par] at hTT <;> simp [Hidden, hTT]
      have dm := fun (w1 : World) => marks_cell w1 n (by omega) (by omega)
      generalize mkN n = M at *
      obtain ⟨M0, hM0⟩ : ∃ C, [32] ++ M = C := ⟨_, rfl⟩
      obtain ⟨MM, hMM⟩ : ∃ C, M0 ++ [32] = C := ⟨_, rfl⟩
      obtain ⟨A, hA⟩ : ∃ C, S ++ MM = C := ⟨_, rfl⟩
      obtain ⟨R1, hR1⟩ : ∃ C, A ++ T = C := ⟨_, rfl⟩
      obtain ⟨B0, hB0⟩ : ∃ C, [40] ++ S = C := ⟨_, rfl⟩
      obtain ⟨B1, hB1⟩ : ∃ C, B0 ++ [41] = C := ⟨_, rfl⟩
      obtain ⟨B2, hB2⟩ : ∃ C, B1 ++ MM = C := ⟨_, rfl⟩
      obtain ⟨R2, hR2⟩ : ∃ C, B2 ++ T = C := ⟨_, rfl⟩
      obtain ⟨D1, hD1⟩ : ∃ C, A ++ [40] = C := ⟨_, rfl⟩
      obtain ⟨D2, hD2⟩ : ∃ C, D1 ++ T = C := ⟨_, rfl⟩
      obtain ⟨R3, hR3⟩ : ∃ C, D2 ++ [41] = C := ⟨_, rfl⟩
      obtain ⟨F1, hF1⟩ : ∃ C, B2 ++ [40] = C := ⟨_, rfl⟩
      obtain ⟨F2, hF2⟩ : ∃ C, F1 ++ T = C := ⟨_, rfl⟩
      obtain ⟨R4, hR4⟩ : ∃ C, F2 ++ [41] = C := ⟨_, rfl⟩
      have hcase2 : Hidden (U = R1) ∨ Hidden (U = R2) ∨ Hidden (U = R3) ∨ Hidden (U = R4) := by
        rw [hM0, hMM, hA, hR1, hB0, hB1, hB2, hR2, hD1, hD2, hR3, hF1, hF2, hR4] at hcase
        exact hcase
      have lM0 := congrArg List.length hM0
      simp only [List.length_append, List.length_cons, List.length_nil] at lM0
      have lMM := congrArg List.length hMM
      simp only [List.length_append, List.length_cons, List.length_nil] at lMM
      have lA := congrArg List.length hA
      simp only [List.length_append, List.length_cons, List.length_nil] at lA
      have lR1 := congrArg List.length hR1
      simp only [List.length_append, List.length_cons, List.length_nil] at lR1
      have lB0 := congrArg List.length hB0
      simp only [List.length_append, List.length_cons, List.length_nil] at lB0
      have lB1 := congrArg List.length hB1
      simp only [List.length_append, List.length_cons, List.length_nil] at lB1
      have lB2 := congrArg List.length hB2
      simp only [List.length_append, List.length_cons, List.length_nil] at lB2
      have lR2 := congrArg List.length hR2
      simp only [List.length_append, List.length_cons, List.length_nil] at lR2
      have lD1 := congrArg List.length hD1
      simp only [List.length_append, List.length_cons, List.length_nil] at lD1
      have lD2 := congrArg List.length hD2
      simp only [List.length_append, List.length_cons, List.length_nil] at lD2
      have lR3 := congrArg List.length hR3
      simp only [List.length_append, List.length_cons, List.length_nil] at lR3
      have lF1 := congrArg List.length hF1
      simp only [List.length_append, List.length_cons, List.length_nil] at lF1
      have lF2 := congrArg List.length hF2
      simp only [List.length_append, List.length_cons, List.length_nil] at lF2
      have lR4 := congrArg List.length hR4
      simp only [List.length_append, List.length_cons, List.length_nil] at lR4
      have tM0 := catv [32] M M0 hM0 (by omega)
      have tMM := catv M0 [32] MM hMM (by omega)
      have tA := catv S MM A hA (by omega)
      have tR1 := catv A T R1 hR1 (by omega)
      have tB0 := catv [40] S B0 hB0 (by omega)
      have tB1 := catv B0 [41] B1 hB1 (by omega)
      have tB2 := catv B1 MM B2 hB2 (by omega)
      have tR2 := catv B2 T R2 hR2 (by omega)
      have tD1 := catv A [40] D1 hD1 (by omega)
      have tD2 := catv D1 T D2 hD2 (by omega)
      have tR3 := catv D2 [41] R3 hR3 (by omega)
      have tF1 := catv B2 [40] F1 hF1 (by omega)
      have tF2 := catv F1 T F2 hF2 (by omega)
      have tR4 := catv F2 [41] R4 hR4 (by omega)
      clear m1 m2 hTT hml hS hT hcase hM0 lM0 hMM lMM hA lA hR1 lR1 hB0 lB0 hB1 lB1 hB2 lB2 hR2 lR2 hD1 lD1 hD2 lD2 hR3 lR3 hF1 lF1 hF2 lF2 hR4 lR4
      have q0' : 1 ≤ n := by omega
      have q1' : n ≤ 13 := by omega
      rcases hcase2 with hc | hc | hc | hc
      · obtain rfl : U = R1 := hc
        go_enter Tryz.func6, Tryz.ntmps6
        go_wp2_with fail
        go_at_call 8
        refine (live_any _ (tab_fr ht f0)).mono ?_
        rintro e w1 ⟨rfl, f1⟩
        have g1 := f0.same f1
        obtain ⟨a0, a1, a2, a3, a4, a5, a6⟩ := ex_box (f1.heap x1 (fun f => f))
        go_wp2_with fail
        go_at_call 15
        refine (kt1 _ g1).mono ?_
        rintro e w2 ⟨rfl, f2⟩
        have g2 := g1.same f2
        obtain ⟨b0, b1, b2, b3, b4, b5, b6⟩ := ex_box (f2.heap (f1.heap x2 (fun f => f)) (fun f => f))
        go_wp2_with fail
        go_at_call 15
        refine (kt2 _ g2).mono ?_
        rintro e w3 ⟨rfl, f3⟩
        have g3 := g2.same f3
        obtain ⟨a0, a1, a2, a3, a4, a5, a6⟩ := ex_box (f3.heap (f2.heap (f1.heap x1 (fun f => f)) (fun f => f)) (fun f => f))
        obtain ⟨b0, b1, b2, b3, b4, b5, b6⟩ := ex_box (f3.heap (f2.heap (f1.heap x2 (fun f => f)) (fun f => f)) (fun f => f))
        go_wp2_with fail
        go_at_call 16
        refine (kbin _ g3).mono ?_
        rintro e w4 ⟨⟨v, rfl, hv⟩, f4⟩
        have g4 := g3.same f4
        have kt3 := text_x (bh (n : Int)) (two2 h1 k1 h2 k2) v w4 hbo ho3 hv (tab_fr ht g4) _ _ rfl rfl hl3
        rw [hE3, if_pos rfl, hU] at kt3
        obtain ⟨vo, vc, rfl, _⟩ := hv
        go_wp2_with fail
        go_at_call 15
        refine kt3.mono ?_
        rintro e w5 ⟨rfl, f5⟩
        have g5 := g4.same f5
        have dm5 := dm w5
        go_wp2_with fail
        all_goals
          go_ret
          exact ⟨rfl, g5.same (Fr.alloc _ _ _)⟩
      · obtain rfl : U = R2 := hc
        go_enter Tryz.func6, Tryz.ntmps6
        go_wp2_with fail
        go_at_call 8
        refine (live_any _ (tab_fr ht f0)).mono ?_
        rintro e w1 ⟨rfl, f1⟩
        have g1 := f0.same f1
        obtain ⟨a0, a1, a2, a3, a4, a5, a6⟩ := ex_box (f1.heap x1 (fun f => f))
        go_wp2_with fail
        go_at_call 15
        refine (kt1 _ g1).mono ?_
        rintro e w2 ⟨rfl, f2⟩
        have g2 := g1.same f2
        obtain ⟨b0, b1, b2, b3, b4, b5, b6⟩ := ex_box (f2.heap (f1.heap x2 (fun f => f)) (fun f => f))
        go_wp2_with fail
        go_at_call 15
        refine (kt2 _ g2).mono ?_
        rintro e w3 ⟨rfl, f3⟩
        have g3 := g2.same f3
        obtain ⟨a0, a1, a2, a3, a4, a5, a6⟩ := ex_box (f3.heap (f2.heap (f1.heap x1 (fun f => f)) (fun f => f)) (fun f => f))
        obtain ⟨b0, b1, b2, b3, b4, b5, b6⟩ := ex_box (f3.heap (f2.heap (f1.heap x2 (fun f => f)) (fun f => f)) (fun f => f))
        go_wp2_with fail
        go_at_call 16
        refine (kbin _ g3).mono ?_
        rintro e w4 ⟨⟨v, rfl, hv⟩, f4⟩
        have g4 := g3.same f4
        have kt3 := text_x (bh (n : Int)) (two2 h1 k1 h2 k2) v w4 hbo ho3 hv (tab_fr ht g4) _ _ rfl rfl hl3
        rw [hE3, if_pos rfl, hU] at kt3
        obtain ⟨vo, vc, rfl, _⟩ := hv
        go_wp2_with fail
        go_at_call 15
        refine kt3.mono ?_
        rintro e w5 ⟨rfl, f5⟩
        have g5 := g4.same f5
        have dm5 := dm w5
        go_wp2_with fail
        all_goals
          go_ret
          exact ⟨rfl, g5.same (Fr.alloc _ _ _)⟩
      · obtain rfl : U = R3 := hc
        go_enter Tryz.func6, Tryz.ntmps6
        go_wp2_with fail
        go_at_call 8
        refine (live_any _ (tab_fr ht f0)).mono ?_
        rintro e w1 ⟨rfl, f1⟩
        have g1 := f0.same f1
        obtain ⟨a0, a1, a2, a3, a4, a5, a6⟩ := ex_box (f1.heap x1 (fun f => f))
        go_wp2_with fail
        go_at_call 15
        refine (kt1 _ g1).mono ?_
        rintro e w2 ⟨rfl, f2⟩
        have g2 := g1.same f2
        obtain ⟨b0, b1, b2, b3, b4, b5, b6⟩ := ex_box (f2.heap (f1.heap x2 (fun f => f)) (fun f => f))
        go_wp2_with fail
        go_at_call 15
        refine (kt2 _ g2).mono ?_
        rintro e w3 ⟨rfl, f3⟩
        have g3 := g2.same f3
        obtain ⟨a0, a1, a2, a3, a4, a5, a6⟩ := ex_box (f3.heap (f2.heap (f1.heap x1 (fun f => f)) (fun f => f)) (fun f => f))
        obtain ⟨b0, b1, b2, b3, b4, b5, b6⟩ := ex_box (f3.heap (f2.heap (f1.heap x2 (fun f => f)) (fun f => f)) (fun f => f))
        go_wp2_with fail
        go_at_call 16
        refine (kbin _ g3).mono ?_
        rintro e w4 ⟨⟨v, rfl, hv⟩, f4⟩
        have g4 := g3.same f4
        have kt3 := text_x (bh (n : Int)) (two2 h1 k1 h2 k2) v w4 hbo ho3 hv (tab_fr ht g4) _ _ rfl rfl hl3
        rw [hE3, if_pos rfl, hU] at kt3
        obtain ⟨vo, vc, rfl, _⟩ := hv
        go_wp2_with fail
        go_at_call 15
        refine kt3.mono ?_
        rintro e w5 ⟨rfl, f5⟩
        have g5 := g4.same f5
        have dm5 := dm w5
        go_wp2_with fail
        all_goals
          go_ret
          exact ⟨rfl, g5.same (Fr.alloc _ _ _)⟩
      · obtain rfl : U = R4 := hc
        go_enter Tryz.func6, Tryz.ntmps6
        go_wp2_with fail
        go_at_call 8
        refine (live_any _ (tab_fr ht f0)).mono ?_
        rintro e w1 ⟨rfl, f1⟩
        have g1 := f0.same f1
        obtain ⟨a0, a1, a2, a3, a4, a5, a6⟩ := ex_box (f1.heap x1 (fun f => f))
        go_wp2_with fail
        go_at_call 15
        refine (kt1 _ g1).mono ?_
        rintro e w2 ⟨rfl, f2⟩
        have g2 := g1.same f2
        obtain ⟨b0, b1, b2, b3, b4, b5, b6⟩ := ex_box (f2.heap (f1.heap x2 (fun f => f)) (fun f => f))
        go_wp2_with fail
        go_at_call 15
        refine (kt2 _ g2).mono ?_
        rintro e w3 ⟨rfl, f3⟩
        have g3 := g2.same f3
        obtain ⟨a0, a1, a2, a3, a4, a5, a6⟩ := ex_box (f3.heap (f2.heap (f1.heap x1 (fun f => f)) (fun f => f)) (fun f => f))
        obtain ⟨b0, b1, b2, b3, b4, b5, b6⟩ := ex_box (f3.heap (f2.heap (f1.heap x2 (fun f => f)) (fun f => f)) (fun f => f))
        go_wp2_with fail
        go_at_call 16
        refine (kbin _ g3).mono ?_
        rintro e w4 ⟨⟨v, rfl, hv⟩, f4⟩
        have g4 := g3.same f4
        have kt3 := text_x (bh (n : Int)) (two2 h1 k1 h2 k2) v w4 hbo ho3 hv (tab_fr ht g4) _ _ rfl rfl hl3
        rw [hE3, if_pos rfl, hU] at kt3
        obtain ⟨vo, vc, rfl, _⟩ := hv
        go_wp2_with fail
        go_at_call 15
        refine kt3.mono ?_
        rintro e w5 ⟨rfl, f5⟩
        have g5 := g4.same f5
        have dm5 := dm w5
        go_wp2_with fail
        all_goals
          go_ret
          exact ⟨rfl, g5.same (Fr.alloc _ _ _)⟩
    · go_enter Tryz.func6, Tryz.ntmps6
      go_wp2_with fail
      go_at_call 8
      refine (live_any _ (tab_fr ht f0)).mono ?_
      rintro e w1 ⟨rfl, f1⟩
      have g1 := f0.same f1
      obtain ⟨a0, a1, a2, a3, a4, a5, a6⟩ := ex_box (f1.heap x1 (fun f => f))
      go_wp2_with fail
      go_at_call 15
      refine (kt1 _ g1).mono ?_
      rintro e w2 ⟨rfl, f2⟩
      have g2 := g1.same f2
      obtain ⟨b0, b1, b2, b3, b4, b5, b6⟩ := ex_box (f2.heap (f1.heap x2 (fun f => f)) (fun f => f))
      go_wp2_with fail
      go_at_call 15
      refine (kt2 _ g2).mono ?_
      rintro e w3 ⟨rfl, f3⟩
      have g3 := g2.same f3
      obtain ⟨a0, a1, a2, a3, a4, a5, a6⟩ := ex_box (f3.heap (f2.heap (f1.heap x1 (fun f => f)) (fun f => f)) (fun f => f))
      obtain ⟨b0, b1, b2, b3, b4, b5, b6⟩ := ex_box (f3.heap (f2.heap (f1.heap x2 (fun f => f)) (fun f => f)) (fun f => f))
      go_wp2_with fail
      go_at_call 16
      refine (kbin _ g3).mono ?_
      rintro e w4 ⟨⟨v, rfl, hv⟩, f4⟩
      have g4 := g3.same f4
      have kt3 := text_x (bh op) (two2 h1 k1 h2 k2) v w4 hbo ho3 hv (tab_fr ht g4) _ _ rfl rfl hl3
      rw [hE3, if_neg (by decide)] at kt3
      obtain ⟨vo, vc, rfl, _⟩ := hv
      go_wp2_with fail
      go_at_call 15
      refine kt3.mono ?_
      rintro e w5 ⟨rfl, f5⟩
      have g5 := g4.same f5
      go_wp2_with fail
      go_ret
      exact ⟨rfl, g5⟩
end Go.Proofs.YtfkccanjdlajlabGreatDoor
