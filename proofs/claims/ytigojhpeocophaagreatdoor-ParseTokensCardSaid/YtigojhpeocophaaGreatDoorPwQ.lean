/- The law ParseTokens. -/
import Derived.Test.YtigojhpeocophaaGreatDoorPwP
import Derived.Test.YtigojhpeocophaaGreatDoorLxAll
import Derived.Test.YtigojhpeocophaaGreatDoorTrX3
namespace Go.Proofs.YtigojhpeocophaaGreatDoor
open Go.RowKit Lx Te
set_option linter.unusedSimpArgs false
set_option linter.unusedVariables false

theorem toks_len7 {p : Nat} {u : By} {ts : List Tok} (h : Toks wordsL valS p u ts) : (ts.map fun t => t.x.length + 1).sum ≤ 2 * u.length := by
  induction h with
  | done p => simp
  | more p x r k ty b ts hk h0 hg hv h ih =>
    have hx : x.length ≠ 0 := fun e => h0 (List.eq_nil_of_length_eq_zero e)
    rw [List.length_drop] at ih
    simp only [List.map_cons, List.sum_cons, List.length_append]
    omega
theorem join_len7 (ts : List Tok) : (joinS ts).length ≤ (ts.map fun t => t.x.length + 1).sum := by
  cases ts with
  | nil => simp [joinS]
  | cons t ts =>
    rw [joinS_cons, List.length_append, List.map_cons, List.sum_cons]
    have : (tailJ ts).length = (ts.map fun t => t.x.length + 1).sum := by
      simp [tailJ, List.length_flatMap]
    omega
set_option maxRecDepth 20000 in
set_option maxHeartbeats 1000000 in
theorem toks_bad (l : By) (q : Nat) (er : Int) (hl : l.length ≤ 140737488351232) (he : er ≠ 0) (hR : Hidden (lexS wordsL valS l = ([], q, er))) (w : World) (htab : F.Tab w) :
    Calls Tryz.prog 12 #[.string ⟨l.toArray⟩] w fun e w' => e = .returned (.bool true) ∧ Fr (fun _ => False) w w' := by
  have kl := lex_any l [] q er (by omega) hR w htab
  have he2 : (er != 0) = true := by simpa using he
  clear he
  go_enter Tryz.func12, Tryz.ntmps12
  go_wp2_with fail
  go_at_call 33
  refine kl.mono ?_
  rintro e W1 ⟨v1, rfl, r1, f1⟩
  have kj := join_walk v1 [] [] rfl (by decide) (by decide) W1 r1.tk
  go_wp2_with fail
  go_at_call 34
  refine kj.mono ?_
  rintro e W2 ⟨rfl, f2⟩
  have ka := alive7_any W2 (tab_fr (tab_fr htab f1) f2)
  go_wp2_with fail
  go_at_call 28
  refine ka.mono ?_
  rintro e W3 ⟨rfl, f3⟩
  go_wp2_with fail
  go_ret
  exact ⟨rfl, (f1.same f2).same f3⟩
set_option maxRecDepth 20000 in
set_option maxHeartbeats 1000000 in
theorem toks_long (l J : By) (ts : List Tok) (hl : l.length ≤ 4096) (hts : ts.length ≤ 1024) (hR : Hidden (lexS wordsL valS l = (ts, 0, 0))) (hJ : Hidden (joinS ts = J)) (hJl : J.length ≤ 8192) (hJ2 : 4096 < J.length) (w : World) (htab : F.Tab w) :
    Calls Tryz.prog 12 #[.string ⟨l.toArray⟩] w fun e w' => e = .returned (.bool true) ∧ Fr (fun _ => False) w w' := by
  have kl := lex_any l ts 0 0 (by omega) hR w htab
  have hs := str_len J
  go_enter Tryz.func12, Tryz.ntmps12
  go_wp2_with fail
  go_at_call 33
  refine kl.mono ?_
  rintro e W1 ⟨v1, rfl, r1, f1⟩
  have kj := join_walk v1 ts J hJ (by omega) (by omega) W1 r1.tk
  go_wp2_with fail
  go_at_call 34
  refine kj.mono ?_
  rintro e W2 ⟨rfl, f2⟩
  have ka := alive7_any W2 (tab_fr (tab_fr htab f1) f2)
  go_wp2_with fail
  go_at_call 28
  refine ka.mono ?_
  rintro e W3 ⟨rfl, f3⟩
  go_wp2_with fail
  go_ret
  exact ⟨rfl, (f1.same f2).same f3⟩
set_option maxRecDepth 20000 in
set_option maxHeartbeats 1000000 in
theorem toks_ok (l J : By) (ts : List Tok) (hl : l.length ≤ 4096) (hts : ts.length ≤ 1024) (hR : Hidden (lexS wordsL valS l = (ts, 0, 0))) (hJ : Hidden (joinS ts = J)) (hJl : J.length ≤ 4096)
    (m : Option Mo) (p p' : Nat) (c : Int) (hS : Hidden (Pz.parS l = some (m, p, c))) (hS' : Hidden (Pz.parS J = some (m, p', c))) (w : World) (htab : F.Tab w) :
    Calls Tryz.prog 12 #[.string ⟨l.toArray⟩] w fun e w' => e = .returned (.bool true) ∧ Fr (fun _ => False) w w' := by
  have kl := lex_any l ts 0 0 (by omega) hR w htab
  have hs := str_len J
  have hsl := str_len l
  go_enter Tryz.func12, Tryz.ntmps12
  go_wp2_with fail
  go_at_call 33
  refine kl.mono ?_
  rintro e W1 ⟨v1, rfl, r1, f1⟩
  have kj := join_walk v1 ts J hJ (by omega) (by omega) W1 r1.tk
  go_wp2_with fail
  go_at_call 34
  refine kj.mono ?_
  rintro e W2 ⟨rfl, f2⟩
  have t2 := tab_fr (tab_fr htab f1) f2
  have ka := alive7_any W2 t2
  go_wp2_with fail
  go_at_call 28
  refine ka.mono ?_
  rintro e W3 ⟨rfl, f3⟩
  have t3 := tab_fr t2 f3
  go_wp2_with fail
  obtain ⟨M, hM⟩ : ∃ M, Pz.mo m = M := ⟨_, rfl⟩
  have k1 := par_any l m p c (by omega) hS W3 t3
  rw [hM] at k1
  go_at_call 25
  refine k1.mono ?_
  rintro e W4 ⟨ao, cap, ao', cap', rfl, s4, d4, f4⟩
  have fa := Fr.alloc (fun _ => False) W4 (.cells #[ct M.name, .slice ao M.imports.length cap, .slice ao' M.decls.length cap'] 25)
  have hn : Hidden ((W4.alloc (.cells #[ct M.name, .slice ao M.imports.length cap, .slice ao' M.decls.length cap'] 25)).heap[W4.heap.size]? = some (.cells #[ct M.name, .slice ao M.imports.length cap, .slice ao' M.decls.length cap'] 25 (0, 0))) := alloc_new _ _
  have hm : Hidden (MoI (W4.alloc (.cells #[ct M.name, .slice ao M.imports.length cap, .slice ao' M.decls.length cap'] 25)) M (.agg #[ct M.name, .slice ao M.imports.length cap, .slice ao' M.decls.length cap'])) := ⟨ao, cap, ao', cap', rfl, s4.keep fa, d4.keep fa⟩
  have k2 := par_any J m p' c (by omega) hS' _ (tab_fr t3 (f4.same fa))
  rw [hM] at k2
  clear hM k1
  go_wp2_with fail
  go_at_call 25
  refine k2.mono ?_
  rintro e W5 ⟨bo, bap, bo', bap', rfl, s5, d5, f5⟩
  have fb := Fr.alloc (fun _ => False) W5 (.cells #[ct M.name, .slice bo M.imports.length bap, .slice bo' M.decls.length bap'] 25)
  have hm1 := (MoI.keep hm f5).keep fb
  have hm2 : MoI (W5.alloc (.cells #[ct M.name, .slice bo M.imports.length bap, .slice bo' M.decls.length bap'] 25)) M (.agg #[ct M.name, .slice bo M.imports.length bap, .slice bo' M.decls.length bap']) := ⟨bo, bap, bo', bap', rfl, s5.keep fb, d5.keep fb⟩
  have ks := X.same_any M M _ _ _ hm1 hm2
  rw [decide_eq_true rfl] at ks
  obtain ⟨x0, x1, x2, y0, y1, y2⟩ := box3 (fb.heap (f5.heap hn (fun f => f)) (fun f => f))
  have hcc : (c == c) = true := by simp
  clear hm1 hm2 y0 y1 y2
  go_wp2_with fail
  go_at_call 27
  refine ks.mono ?_
  rintro e W6 ⟨rfl, f6⟩
  go_wp2_with fail
  go_ret
  exact ⟨rfl, (((((f1.same f2).same f3).same f4).same fa).same f5).same (fb.same f6)⟩
theorem parseTokens.walk (l : By) (w : World) (hl : l.length ≤ 140737488351232) (htab : F.Tab w) :
    Calls Tryz.prog 12 #[.string ⟨l.toArray⟩] w fun e w' => e = .returned (.bool true) ∧ Fr (fun _ => False) w w' := by
  obtain ⟨ts, q, er, hR⟩ : ∃ ts q er, lexS wordsL valS l = (ts, q, er) := ⟨_, _, _, rfl⟩
  rcases toks_of_lexS wordsL valS l ts q er hR with ⟨rfl, rfl, h1, h2, h3⟩ | ⟨h1, rfl, h2⟩
  · have hlen := toks_len7 h3
    rw [List.length_drop] at hlen
    have hj := join_len7 ts
    by_cases hJ : 4096 < (joinS ts).length
    · exact toks_long l _ ts h2 h1 hR rfl (by omega) hJ w htab
    · obtain ⟨hg, hsh⟩ := toks_join wordsL valS h3
      obtain ⟨ts', ht1, ht2⟩ := hsh (gap (joinS ts))
      have hlen' : ts'.length = ts.length := by have := congrArg List.length ht2; simpa using this
      have hR' := lexS_of_toks wordsL valS (joinS ts) ts' (by omega) (by omega) (by rw [hg] at ht1 ⊢; exact ht1)
      obtain ⟨⟨m, p, c⟩, hS⟩ := Pz.parS_some l
      have hS1 : Pz.parT ts l.length = some (m, p, c) := by
        have := hS
        unfold Pz.parS at this
        rw [hR] at this
        simpa using this
      obtain ⟨p', hS2⟩ := Pz.parT_al (show Pz.Al ts ts' from ht2.symm) l.length (joinS ts).length m p c hS1
      have hS3 : Pz.parS (joinS ts) = some (m, p', c) := by
        unfold Pz.parS
        rw [hR']
        simpa using hS2
      exact toks_ok l _ ts h2 h1 hR rfl (by omega) m p p' c hS hS3 w htab
  · exact toks_bad l q er hl h1 hR w htab
end Go.Proofs.YtigojhpeocophaaGreatDoor
