/- The document's Lex. -/
import Derived.Test.YteijjaabngkbjaaGreatDoorLxR7
namespace Go.Proofs.YteijjaabngkbjaaGreatDoor
open Go.RowKit Lx
set_option linter.unusedSimpArgs false
set_option linter.unusedVariables false

set_option maxRecDepth 20000 in
set_option maxHeartbeats 2000000 in
theorem rlex_walk (l : By) (ts : List Tok) (q : Nat) (er : Int) (hl : l.length ≤ 4096) (hR : Hidden (lexU wordsL valS (l.length + 1) (gap l) [] (l.drop (gap l)) = (ts, q, er))) (w : World) :
    Calls Tryz.prog 21 #[.string ⟨l.toArray⟩] w fun e w' => ∃ v, e = .returned (.tuple #[v, .int .i64 (q : Int), .int .i64 er]) ∧ Tr w' w.heap.size 92 v ts ∧ Fr (fun _ => False) w w' := by
  have hs := str_len l
  have hgl := gap_le l false
  have kg0 := skip_walk l 0 (gap l) (by omega) (by omega) (by show _ = _; simp)
  go_enter Tryz.func21, Tryz.ntmps21
  go_wp2_with (go_at_call 45; refine (kg0 _).mono ?_; rintro e w ⟨rfl, rfl⟩)
  go_loopg [5, 6] (l.length - gap l + 1) (fun k lv iv wr => ∃ (j f : Nat) (acc : List Tok), iv = .int .i64 (j : Int) ∧ j ≤ l.length ∧ Tr wr w.heap.size 92 lv acc ∧ acc.length ≤ 1024 ∧ l.length - j < f ∧ lexU wordsL valS f j acc (l.drop j) = (ts, q, er) ∧ Fr (fun _ => False) w wr ∧ k = l.length - j + 1)
  case atStart => exact ⟨gap l, l.length + 1, [], rfl, hgl, Tr.nil _ _ _, by simp, by omega, hR, Fr.refl _ _, rfl⟩
  case round =>
    obtain ⟨j, f, acc, rfl, hj, hrow, hacc, hf, hlex, hfr, hgk⟩ := hrel
    have hgkH : Hidden (gk = l.length - j + 1) := hgk
    have hlexH : Hidden (lexU wordsL valS f j acc (l.drop j) = (ts, q, er)) := hlex
    have haccH : Hidden (acc.length ≤ 1024) := hacc
    clear hgk hlex hR hgl hacc
    obtain ⟨ao, cap, rfl⟩ := hrow.len
    by_cases hjl : j < l.length
    · obtain ⟨k, n, hk⟩ : ∃ k n, kindLen wordsL (l.drop j) = (k, n) := ⟨_, _, rfl⟩
      obtain ⟨t, b, e, hv⟩ : ∃ t b e, valS k ((l.drop j).take n) = (t, b, e) := ⟨_, _, _, rfl⟩
      have hst := lexU_step f j acc (l.drop j) k n t b e (by rw [List.length_drop]; exact hf) (by intro h; have := congrArg List.length h; rw [List.length_drop] at this; simp at this; omega) hk hv _ hlexH
      have kt := rnext_any l j k n hjl hl hk wr
      have hle := kind_le wordsL (l.drop j)
      rw [hk, List.length_drop] at hle
      unfold RTok at kt
      rw [hv] at kt
      simp only at kt
      rcases hst with ⟨h0, hr⟩ | ⟨h0, he, hr⟩ | ⟨h0, he, ha, hr⟩ | ⟨h0, he, ha, f', hf', hr⟩
      · cases hr
        go_wp2_with (go_at_call 46; refine kt.mono ?_; rintro e1 W1 ⟨hr1, hr2, f1⟩; obtain rfl := hr1 h0; clear hr1 hr2)
        go_ret3
        exact ⟨.slice none 0 0, rfl, Tr.nil _ _ _, (hfr.same f1).same (Fr.alloc _ _ _)⟩
      · cases hr
        have he2 : (er != 0) = true := by simpa using he
        clear he
        go_wp2_with (go_at_call 46; refine kt.mono ?_; rintro e1 W1 ⟨hr1, hr2, f1⟩; obtain ⟨t1, b1, e2, rfl, rfl, _⟩ := hr2 h0; clear hr1 hr2)
        go_ret3
        exact ⟨.slice none 0 0, rfl, Tr.nil _ _ _, (hfr.same f1).same (Fr.alloc _ _ _)⟩
      · cases hr
        subst he
        have ha1 : ((acc.length : Int) == 1024) = true := by simp; omega
        have haH : Hidden (acc.length = 1024) := ha
        clear ha
        go_wp2_with (go_at_call 46; refine kt.mono ?_; rintro e1 W1 ⟨hr1, hr2, f1⟩; obtain ⟨t1, b1, e2, rfl, rfl, _⟩ := hr2 h0; clear hr1 hr2)
        go_ret3
        exact ⟨.slice none 0 0, rfl, Tr.nil _ _ _, (hfr.same f1).same (Fr.alloc _ _ _)⟩
      · subst he
        have ha1 : ((acc.length : Int) == 1024) = false := by rw [beq_eq_false_iff_ne]; omega
        have haH : Hidden (acc.length ≠ 1024) := ha
        have hrH : Hidden (lexU wordsL valS f' (j + n + gap ((l.drop j).drop n)) (acc ++ [⟨k, (l.drop j).take n, t, b, j⟩]) (((l.drop j).drop n).drop (gap ((l.drop j).drop n))) = (ts, q, er)) := hr
        have hfH : Hidden (l.length - j ≤ f') := by rw [List.length_drop] at hf'; exact hf'
        clear ha hr hf'
        obtain ⟨x, hx⟩ : ∃ x, (l.drop j).take n = x := ⟨_, rfl⟩
        have hxl : Hidden (x.length = n) := by show _ = _; rw [← hx, List.length_take, List.length_drop]; simp only at hle; omega
        have hxs := str_len x
        have hxn : ((x.length : Nat) : Int) = (n : Int) := by rw [show x.length = n from hxl]
        rw [hx] at kt hv
        obtain ⟨N, hN⟩ : ∃ N, j + n + gap (l.drop (j + n)) = N := ⟨_, rfl⟩
        have kg := skip_walk l (j + n) N (by simp only at hle; omega) (by omega) hN
        go_wp2_with (first
          | (go_at_call 46; refine kt.mono ?_; rintro e1 W1 ⟨hr1, hr2, f1⟩; obtain ⟨t1, b1, e2, rfl, rfl, hr3⟩ := hr2 h0; obtain ⟨rfl, rfl⟩ := hr3 rfl; clear hr1 hr2 hr3)
          | (go_at_call 45; refine (kg _).mono ?_; rintro e w' ⟨rfl, rfl⟩)
          | (at_builtin
             refine wpList_tok rfl _ _ 54 92 Tryz.underlying54 info_rtok3 rfl w.heap.size (.slice ao acc.length cap) acc ⟨k, x, t1, b1, j⟩ (W1.heap.size + 1) 1 rfl ?c0 rfl ?c1 ?c2 ?c3 ?_
             case c0 => exact (hrow.keepN f1).keepN ((Fr.alloc _ _ _).same (Fr.alloc _ _ _))
             case c1 => exact fun i u hu => (cell_of_row _ _ i _ _ _ (heap_alloc2_new _ _ _)).trans (tok_arr ⟨k, x, t1, b1, j⟩ i u hu)
             case c2 => have : acc.length ≤ 1024 := haccH; omega
             case c3 => have := hfr.size; have := f1.size; simp; omega
             intro v2 W2 hrow2 f2
             have hb2 : Hidden (W2.heap[W1.heap.size]? = some (.cells #[.int .i64 (k : Int), .string ⟨x.toArray⟩, .int .i64 t1, .int .u64 b1, .int .i64 (j : Int)] 92 (0, 0))) := f2.heap (heap_alloc2_old _ _ _) (fun h => by have := hrow.high _ h; have := f1.size; omega)
             have hc1 : W2.cell? ⟨W1.heap.size, 1, none⟩ = some (.string ⟨x.toArray⟩) := cell_of_row _ _ 1 _ _ _ hb2))
        have hNle : N ≤ l.length := by
          have h1 := gap_le (l.drop (j + n)) false
          rw [List.length_drop] at h1
          have h2 : gap (l.drop (j + n)) = gapM false (l.drop (j + n)) := rfl
          omega
        have hjN : j + n ≤ N := by omega
        go_roundg (l.length - N + 1)
        case measure =>
          have : gk = l.length - j + 1 := hgkH
          omega
        case rel =>
          have e1 : (l.drop j).drop n = l.drop (j + n) := List.drop_drop
          have hrr : lexU wordsL valS f' (j + n + gap ((l.drop j).drop n)) (acc ++ [⟨k, (l.drop j).take n, t1, b1, j⟩]) (((l.drop j).drop n).drop (gap ((l.drop j).drop n))) = (ts, q, er) := hrH
          rw [e1, List.drop_drop, hN, hx] at hrr
          have h3 : l.length - j ≤ f' := hfH
          have h4 : acc.length ≤ 1024 := haccH
          have h5 : acc.length ≠ 1024 := haH
          have hf3 : Fr (fun _ => False) w _ := ((hfr.same f1).same ((Fr.alloc _ _ _).same (Fr.alloc _ _ _))).own f2 hrow.low
          exact ⟨N, f', acc ++ [⟨k, x, t1, b1, j⟩], rfl, hNle, hrow2, by rw [List.length_append]; simp; omega, by omega, hrr, hf3, rfl⟩
    · obtain rfl : j = l.length := by omega
      have hz := hlexH
      rw [Hidden, List.drop_length, lexU_stop f l.length acc (by omega)] at hz
      cases hz
      go_wp2
      go_ret3
      exact ⟨_, rfl, hrow, hfr⟩
theorem rlex_long (l : By) (hl : 4096 < l.length) (hl2 : l.length ≤ 9223372036854775807) (w : World) :
    Calls Tryz.prog 21 #[.string ⟨l.toArray⟩] w fun e w' => e = .returned (.tuple #[.slice none 0 0, .int .i64 0, .int .i64 3]) ∧ w' = w := by
  have hs := str_len l
  go_enter Tryz.func21, Tryz.ntmps21
  go_wp2
  go_ret3
  exact ⟨rfl, rfl⟩
theorem rlex_any (l : By) (ts : List Tok) (q : Nat) (er : Int) (hl : l.length ≤ 9223372036854775807) (hR : lexS wordsL valS l = (ts, q, er)) (w : World) :
    Calls Tryz.prog 21 #[.string ⟨l.toArray⟩] w fun e w' => ∃ v, e = .returned (.tuple #[v, .int .i64 (q : Int), .int .i64 er]) ∧ Tr w' w.heap.size 92 v ts ∧ Fr (fun _ => False) w w' := by
  unfold lexS at hR
  split at hR
  · rename_i h
    cases hR
    exact (rlex_long l h hl w).mono fun e w' ⟨h1, h2⟩ => ⟨_, h1, Tr.nil _ _ _, by rw [h2]; exact Fr.refl _ _⟩
  · exact rlex_walk l ts q er (by omega) hR w
end Go.Proofs.YteijjaabngkbjaaGreatDoor
