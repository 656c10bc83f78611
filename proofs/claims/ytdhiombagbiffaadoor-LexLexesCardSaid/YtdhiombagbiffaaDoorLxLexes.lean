/- The law LexLexes: the program's tokens are the document's. -/
import Derived.Test.YtdhiombagbiffaaDoorLxR9
namespace Go.Proofs.YtdhiombagbiffaaDoor
open Go.RowKit Lx
set_option linter.unusedSimpArgs false
set_option linter.unusedVariables false

set_option maxRecDepth 20000 in
set_option maxHeartbeats 2000000 in
theorem lexes_walk (l : By) (ts : List Tok) (q : Nat) (er : Int) (hl : l.length ≤ 140737488351232) (hts : ts.length ≤ 1024) (hR : Hidden (lexS wordsL valS l = (ts, q, er))) (w : World) (htab : F.Tab w) :
    Calls Tryd.prog 3 #[.string ⟨l.toArray⟩] w fun e w' => e = .returned (.bool true) ∧ Fr (fun _ => False) w w' := by
  have kl := lex_any l ts q er (by omega) hR w htab
  have kr := rlex_any l ts q er (by omega) hR
  have e1 : ((q : Int) != (q : Int)) = false := by simp
  have e2 : (er != er) = false := by simp
  have e3 : ((ts.length : Int) != (ts.length : Int)) = false := by simp
  go_enter Tryd.func3, Tryd.ntmps3
  go_wp2_with fail
  go_at_call 9
  refine kl.mono ?_
  rintro e W1 ⟨v1, rfl, r1, f1⟩
  go_wp2_with fail
  go_at_call 10
  refine (kr W1).mono ?_
  rintro e W2 ⟨v2, rfl, r2, f2⟩
  have k1 : Hidden (Tk W2 v1 ts) := r1.tk.keepN f2
  obtain ⟨ao1, cap1, rfl⟩ := r1.len
  obtain ⟨ao2, cap2, rfl⟩ := r2.len
  have ka := alive_any W2 (tab_fr (tab_fr htab f1) f2)
  go_wp2_with fail
  go_at_call 11
  refine ka.mono ?_
  rintro e W3 ⟨rfl, f3⟩
  have kt := tokens_walk _ ts (by omega) W3 ((show Tk W2 _ ts from k1).keepN f3)
  go_wp2_with fail
  go_at_call 12
  refine kt.mono ?_
  rintro e W4 ⟨v3, rfl, r3, f4⟩
  obtain ⟨ao3, cap3, rfl⟩ := r3.len
  have t2 : Hidden (Tk W4 (.slice ao2 ts.length cap2) ts) := (r2.tk.keepN f3).keepN f4
  have t3 : Hidden (Tk W4 (.slice ao3 ts.length cap3) ts) := r3.tk
  have hfa : Fr (fun _ => False) w W4 := ((f1.same f2).same f3).same f4
  clear kl kr ka kt k1 r1 r2 r3 f1 f2 f3 f4 hR
  go_wp2_with fail
  go_loopg [10] ts.length (fun k iv wr => ∃ i : Nat, iv = .int .i64 (i : Int) ∧ i ≤ ts.length ∧ k = ts.length - i ∧ Fr (fun _ => False) W4 wr)
  case atStart => exact ⟨0, rfl, by omega, rfl, Fr.refl _ _⟩
  case round =>
    obtain ⟨i, rfl, hi, hgk, hfr⟩ := hrel
    have hgkH : Hidden (gk = ts.length - i) := hgk
    clear hgk
    by_cases hil : i < ts.length
    · obtain ⟨t, ht⟩ : ∃ t, ts[i]? = some t := ⟨ts[i], List.getElem?_eq_getElem hil⟩
      obtain ⟨_, _, hv2, hca2, hcm2, h2⟩ := (show Tk W4 _ ts from t2).keepN hfr
      obtain ⟨_, _, hv3, hca3, hcm3, h3⟩ := (show Tk W4 _ ts from t3).keepN hfr
      simp only [Value.slice.injEq, true_and] at hv2 hv3
      obtain ⟨rfl, rfl⟩ := hv2
      obtain ⟨rfl, rfl⟩ := hv3
      rcases h2 with h2 | ⟨g2, o2, rfl, hc2⟩
      · rw [h2] at ht; simp at ht
      rcases h3 with h3 | ⟨g3, o3, rfl, hc3⟩
      · rw [h3] at ht; simp at ht
      have hcc2 := hc2 i t ht
      have hcc3 := hc3 i t ht
      obtain ⟨k, x, ty, b, p⟩ := t
      have c0 : wr.cell? ⟨g2, o2 + i * 5, none⟩ = some (.int .i64 (k : Int)) := hcc2 0 _ rfl
      have c1 : wr.cell? ⟨g2, o2 + i * 5 + 1, none⟩ = some (.string ⟨x.toArray⟩) := hcc2 1 _ rfl
      have c2 : wr.cell? ⟨g2, o2 + i * 5 + 2, none⟩ = some (.int .i64 ty) := hcc2 2 _ rfl
      have c3 : wr.cell? ⟨g2, o2 + i * 5 + 3, none⟩ = some (.int .u64 b) := hcc2 3 _ rfl
      have c4 : wr.cell? ⟨g2, o2 + i * 5 + 4, none⟩ = some (.int .i64 (p : Int)) := hcc2 4 _ rfl
      have d0 : wr.cell? ⟨g3, o3 + i * 5, none⟩ = some (.int .i64 (k : Int)) := hcc3 0 _ rfl
      have d1 : wr.cell? ⟨g3, o3 + i * 5 + 1, none⟩ = some (.string ⟨x.toArray⟩) := hcc3 1 _ rfl
      have d2 : wr.cell? ⟨g3, o3 + i * 5 + 2, none⟩ = some (.int .i64 ty) := hcc3 2 _ rfl
      have d3 : wr.cell? ⟨g3, o3 + i * 5 + 3, none⟩ = some (.int .u64 b) := hcc3 3 _ rfl
      have d4 : wr.cell? ⟨g3, o3 + i * 5 + 4, none⟩ = some (.int .i64 (p : Int)) := hcc3 4 _ rfl
      have i1 : (0 : Int) ≤ (i : Int) := by omega
      have i2 : (i : Int) < (ts.length : Int) := by omega
      clear hc2 hc3 hcc2 hcc3 ht
      go_wp2_with fail
      go_quiet (fail)
      go_wp2_with fail
      go_roundg (ts.length - (i + 1))
      case measure =>
        have : gk = ts.length - i := hgkH
        omega
      case rel => exact ⟨i + 1, by go_num, by omega, rfl, hfr.same (fr_dn0 _ _)⟩
    · obtain rfl : i = ts.length := by omega
      go_wp2_with fail
      go_ret
      exact ⟨rfl, hfa.same hfr⟩
theorem lexLexes.walk (l : By) (w : World) (hl : l.length ≤ 140737488351232) (htab : F.Tab w) :
    Calls Tryd.prog 3 #[.string ⟨l.toArray⟩] w fun e w' => e = .returned (.bool true) ∧ Fr (fun _ => False) w w' := by
  obtain ⟨ts, q, er, hR⟩ : ∃ ts q er, lexS wordsL valS l = (ts, q, er) := ⟨_, _, _, rfl⟩
  have hts : ts.length ≤ 1024 := by
    rcases toks_of_lexS wordsL valS l ts q er hR with ⟨_, _, h, _⟩ | ⟨_, h, _⟩
    · exact h
    · rw [h]; simp
  exact lexes_walk l ts q er hl hts hR w htab
end Go.Proofs.YtdhiombagbiffaaDoor
