/- The law LexBack: tokens that are joined are the same tokens. -/
import Derived.Test.YtdhiombagbiffaaDoorLxSame
namespace Go.Proofs.YtdhiombagbiffaaDoor
open Go.RowKit Lx
set_option linter.unusedSimpArgs false
set_option linter.unusedVariables false

theorem toks_len {p : Nat} {u : By} {ts : List Tok} (h : Toks wordsL valS p u ts) : (ts.map fun t => t.x.length + 1).sum ≤ 2 * u.length := by
  induction h with
  | done p => simp
  | more p x r k ty b ts hk h0 hg hv h ih =>
    have hx : x.length ≠ 0 := fun e => h0 (List.eq_nil_of_length_eq_zero e)
    rw [List.length_drop] at ih
    simp only [List.map_cons, List.sum_cons, List.length_append]
    omega
theorem join_len (ts : List Tok) : (joinS ts).length ≤ (ts.map fun t => t.x.length + 1).sum := by
  cases ts with
  | nil => simp [joinS]
  | cons t ts =>
    rw [joinS_cons, List.length_append, List.map_cons, List.sum_cons]
    have : (tailJ ts).length = (ts.map fun t => t.x.length + 1).sum := by
      simp [tailJ, List.length_flatMap]
    omega

set_option maxRecDepth 20000 in
set_option maxHeartbeats 1000000 in
theorem back_bad (l : By) (q : Nat) (er : Int) (hl : l.length ≤ 140737488351232) (he : er ≠ 0) (hR : Hidden (lexS wordsL valS l = ([], q, er))) (w : World) (htab : F.Tab w) :
    Calls Tryd.prog 6 #[.string ⟨l.toArray⟩] w fun e w' => e = .returned (.bool true) ∧ Fr (fun _ => False) w w' := by
  have kl := lex_any l [] q er (by omega) hR w htab
  have he2 : (er != 0) = true := by simpa using he
  clear he
  go_enter Tryd.func6, Tryd.ntmps6
  go_wp2_with (first
    | (go_at_call 9; refine kl.mono ?_; rintro e W1 ⟨v1, rfl, r1, f1⟩; obtain ⟨ao, cap, rfl⟩ := r1.len; have ka := alive_any W1 (tab_fr htab f1); simp only [List.length_nil])
    | (go_at_call 11; refine ka.mono ?_; rintro e W2 ⟨rfl, f2⟩))
  go_ret
  exact ⟨rfl, f1.same f2⟩
set_option maxRecDepth 20000 in
set_option maxHeartbeats 1000000 in
theorem back_long (l J : By) (ts : List Tok) (hl : l.length ≤ 4096) (hts : ts.length ≤ 1024) (hR : Hidden (lexS wordsL valS l = (ts, 0, 0))) (hJ : Hidden (joinS ts = J)) (hJl : J.length ≤ 8192) (hJ2 : 4096 < J.length) (w : World) (htab : F.Tab w) :
    Calls Tryd.prog 6 #[.string ⟨l.toArray⟩] w fun e w' => e = .returned (.bool true) ∧ Fr (fun _ => False) w w' := by
  have kl := lex_any l ts 0 0 (by omega) hR w htab
  have hs := str_len J
  go_enter Tryd.func6, Tryd.ntmps6
  go_wp2_with (first
    | (go_at_call 9; refine kl.mono ?_; rintro e W1 ⟨v1, rfl, r1, f1⟩
       have kj := join_walk v1 ts J hJ (by omega) (by omega) W1 r1.tk
       obtain ⟨ao, cap, rfl⟩ := r1.len)
    | (go_at_call 13; refine kj.mono ?_; rintro e W2 ⟨rfl, f2⟩; have ka := alive_any W2 (tab_fr (tab_fr htab f1) f2))
    | (go_at_call 11; refine ka.mono ?_; rintro e W3 ⟨rfl, f3⟩))
  go_ret
  exact ⟨rfl, (f1.same f2).same f3⟩
set_option maxRecDepth 20000 in
set_option maxHeartbeats 1000000 in
theorem back_ok (l J : By) (ts ts' : List Tok) (hl : l.length ≤ 4096) (hts : ts.length ≤ 1024) (hts' : ts'.length ≤ 1024) (hR : Hidden (lexS wordsL valS l = (ts, 0, 0))) (hJ : Hidden (joinS ts = J)) (hJ' : Hidden (joinS ts' = J)) (hJl : J.length ≤ 4096)
    (hR' : Hidden (lexS wordsL valS J = (ts', 0, 0))) (hco : Hidden (ts.map Tok.core = ts'.map Tok.core)) (w : World) (htab : F.Tab w) :
    Calls Tryd.prog 6 #[.string ⟨l.toArray⟩] w fun e w' => e = .returned (.bool true) ∧ Fr (fun _ => False) w w' := by
  have kl := lex_any l ts 0 0 (by omega) hR w htab
  have hs := str_len J
  go_enter Tryd.func6, Tryd.ntmps6
  go_wp2_with fail
  go_at_call 9
  refine kl.mono ?_
  rintro e W1 ⟨v1, rfl, r1, f1⟩
  have kj := join_walk v1 ts J hJ (by omega) (by omega) W1 r1.tk
  go_wp2_with fail
  go_at_call 13
  refine kj.mono ?_
  rintro e W2 ⟨rfl, f2⟩
  have t2 := tab_fr (tab_fr htab f1) f2
  have kl2 := lex_any J ts' 0 0 (by omega) hR' W2 t2
  go_wp2_with fail
  go_at_call 9
  refine kl2.mono ?_
  rintro e W3 ⟨v2, rfl, r2, f3⟩
  have t3 := tab_fr t2 f3
  have ks := same_any v1 v2 ts ts' true (decide_eq_true hco) (by omega) W3 ((r1.tk.keepN f2).keepN f3) r2.tk
  go_wp2_with fail
  go_at_call 16
  refine ks.mono ?_
  rintro e W4 ⟨rfl, f4⟩
  have kj2 := join_walk v2 ts' J hJ' (by omega) (by omega) W4 (r2.tk.keepN f4)
  go_wp2_with fail
  go_at_call 13
  refine kj2.mono ?_
  rintro e W5 ⟨rfl, f5⟩
  have ka := alive_any W5 (tab_fr (tab_fr t3 f4) f5)
  go_wp2_with fail
  go_at_call 11
  refine ka.mono ?_
  rintro e W6 ⟨rfl, f6⟩
  go_wp2_with fail
  go_ret
  exact ⟨rfl, ((((f1.same f2).same f3).same f4).same f5).same f6⟩
theorem lexBack.walk (l : By) (w : World) (hl : l.length ≤ 140737488351232) (htab : F.Tab w) :
    Calls Tryd.prog 6 #[.string ⟨l.toArray⟩] w fun e w' => e = .returned (.bool true) ∧ Fr (fun _ => False) w w' := by
  obtain ⟨ts, q, er, hR⟩ : ∃ ts q er, lexS wordsL valS l = (ts, q, er) := ⟨_, _, _, rfl⟩
  rcases toks_of_lexS wordsL valS l ts q er hR with ⟨rfl, rfl, h1, h2, h3⟩ | ⟨h1, rfl, h2⟩
  · have hlen := toks_len h3
    rw [List.length_drop] at hlen
    have hj := join_len ts
    by_cases hJ : 4096 < (joinS ts).length
    · exact back_long l _ ts h2 h1 hR rfl (by omega) hJ w htab
    · obtain ⟨hg, hsh⟩ := toks_join wordsL valS h3
      obtain ⟨ts', ht1, ht2⟩ := hsh (gap (joinS ts))
      have hlen' : ts'.length = ts.length := by have := congrArg List.length ht2; simpa using this
      have hR' := lexS_of_toks wordsL valS (joinS ts) ts' (by omega) (by omega) (by rw [hg] at ht1 ⊢; exact ht1)
      exact back_ok l _ ts ts' h2 h1 (by omega) hR rfl (join_core _ _ ht2) (by omega) hR' ht2.symm w htab
  · exact back_bad l q er hl h1 hR w htab
end Go.Proofs.YtdhiombagbiffaaDoor
