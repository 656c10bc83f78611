/- What must come at any rate. -/
import Derived.Test.YtfkccanjdlajlabGreatDoorTrV2
namespace Go.Proofs.YtfkccanjdlajlabGreatDoor
open Go.RowKit Te
set_option linter.unusedSimpArgs false
set_option linter.unusedVariables false

abbrev l1h : EH := bh 3
abbrev l1k : Exs := two2 (bh 1) (two2 (lh 1) .nil (lh 2) .nil) (lh 3) .nil
theorem it_1 : Lib.itoa 1 = [49] := by decide +kernel
theorem it_2 : Lib.itoa 2 = [50] := by decide +kernel
theorem it_3 : Lib.itoa 3 = [51] := by decide +kernel
theorem live_err : errX rnS cnS l1h l1k = 0 := by decide +kernel
theorem live_txt : bare txS l1h l1k = [40, 49, 32, 43, 32, 50, 41, 32, 42, 32, 51] := by
  have e1 : txS 1 1 = [49] := it_1
  have e2 : txS 1 2 = [50] := it_2
  have e3 : txS 1 3 = [51] := it_3
  simp [bare, txK, pre, post, sep, par, level, lv2, kidL, side, Te.mark, e1, e2, e3]
theorem live_bad : errX rnS cnS (lh 9223372036854775808) .nil = 1 := by decide +kernel
abbrev lm : Mo := ⟨[109], [[107]], []⟩
theorem live_m : errM rnS cnS lm = 0 := by decide +kernel
theorem live_mt : moT txS lm = [109, 111, 100, 117, 108, 101, 32, 109, 59, 10, 105, 109, 112, 111, 114, 116, 32, 107, 59, 10] := rfl
theorem live_lex : (Lx.lexS wordsL valS [109, 111, 100, 117, 108, 101, 32, 109, 59, 10, 105, 109, 112, 111, 114, 116, 32, 107, 59, 10]).2.2 = 0 := by decide +kernel
theorem live_pr : prS lm = ([109, 111, 100, 117, 108, 101, 32, 109, 59, 10, 105, 109, 112, 111, 114, 116, 32, 107, 59, 10], 0) := by
  unfold prS
  rw [if_pos live_m, live_mt, live_lex]
  rfl
theorem okE_lit (n : Int) (h0 : 0 ≤ n) (h1 : n < 18446744073709551616) : OkE (lh n) := ⟨⟨by simp, by simp⟩, ⟨by simp, by simp⟩, ⟨by simp, by simp⟩, h0, h1, by simp [OkN], by simp [OkN]⟩
theorem okE_bin (op : Int) (h : 0 ≤ op ∧ op ≤ 13) : OkE (bh op) := ⟨⟨by simp, by simp⟩, ⟨by simp; omega, by simp; omega⟩, ⟨by simp, by simp⟩, by simp, by simp, by simp [OkN], by simp [OkN]⟩
theorem ExI.lit (w : World) (n : Int) : ExI w (lh n) .nil (exV (lh n) (.slice none 0 0)) := ⟨none, 0, rfl, by simp [Exs.len], by simp [maxLen], Or.inl rfl⟩
set_option maxRecDepth 20000 in
set_option maxHeartbeats 2000000 in
theorem live_any (w : World) (ht : F.Tab w) : Calls Tryz.prog 8 #[] w fun e w' => e = .returned (.bool true) ∧ Fr (fun _ => False) w w' := by
  have kl := fun n w => lit_any6 n w
  go_enter Tryz.func8, Tryz.ntmps8
  go_wp2_with fail
  go_at_call 18
  refine (kl 1 _).mono ?_
  rintro e w1 ⟨rfl, f1⟩
  go_wp2_with fail
  go_at_call 18
  refine (kl 2 _).mono ?_
  rintro e w2 ⟨rfl, f2⟩
  go_wp2_with fail
  go_at_call 16
  refine (bin_any6 1 (lh 1) (lh 2) .nil .nil _ _ _ (ExI.lit _ 1) (ExI.lit _ 2)).mono ?_
  rintro e w3 ⟨⟨v3, rfl, x3⟩, f3⟩
  go_wp2_with fail
  go_at_call 18
  refine (kl 3 _).mono ?_
  rintro e w4 ⟨rfl, f4⟩
  go_wp2_with fail
  go_at_call 16
  refine (bin_any6 3 (bh 1) (lh 3) _ .nil _ _ _ (x3.keep f4) (ExI.lit _ 3)).mono ?_
  rintro e w5 ⟨⟨v5, rfl, x5⟩, f5⟩
  have g5 := (((f1.same f2).same f3).same f4).same f5
  go_wp2_with fail
  go_at_call 15
  refine (text_x l1h l1k v5 w5 (okE_bin 3 (by omega)) ⟨okE_bin 1 (by omega), ⟨okE_lit 1 (by omega) (by omega), trivial, okE_lit 2 (by omega) (by omega), trivial, trivial⟩, okE_lit 3 (by omega) (by omega), trivial, trivial⟩ x5 (tab_fr ht g5) 0 _ live_err live_txt (by decide)).mono ?_
  rintro e w6 ⟨rfl, f6⟩
  have g6 := g5.same f6
  go_wp2_with fail
  go_at_call 18
  refine (kl _ _).mono ?_
  rintro e w7 ⟨rfl, f7⟩
  have g7 := g6.same f7
  go_wp2_with fail
  go_at_call 15
  refine (text_x (lh 9223372036854775808) .nil _ w7 (okE_lit _ (by omega) (by omega)) trivial (ExI.lit _ _) (tab_fr ht g7) 1 _ live_bad rfl (fun h => by omega)).mono ?_
  rintro e w8 ⟨rfl, f8⟩
  have g8 := g7.same f8
  have hmi : MoI (w8.alloc (.cells #[ct [107]] 9)) lm (.agg #[ct [109], .slice (some ⟨w8.heap.size, 0, none⟩) 1 1, .slice none 0 0]) :=
    ⟨some ⟨w8.heap.size, 0, none⟩, 1, none, 0, rfl, ⟨by simp, by simp [maxLen], Or.inr ⟨w8.heap.size, 0, rfl, fun i x hx => by
      match i, hx with
      | 0, hx => simp at hx; subst hx; exact cell_of_row _ _ 0 _ _ _ (alloc_new _ _)⟩⟩, by simp, by simp [maxLen], Or.inl rfl⟩
  have kp := print_w lm _ _ ⟨by simp [OkN], by simp [OkN], by simp⟩ hmi (tab_fr ht (g8.same (Fr.alloc _ _ _))) (fun _ d hd => by simp at hd) (fun _ => by rw [live_mt]; decide)
  rw [live_pr] at kp
  go_wp2_with fail
  go_at_call 19
  refine kp.mono ?_
  rintro e w9 ⟨rfl, f9⟩
  go_wp2_with fail
  go_ret
  exact ⟨rfl, (g8.same (Fr.alloc _ _ _)).same f9⟩
end Go.Proofs.YtfkccanjdlajlabGreatDoor
