/- The law ParseExprBack. -/
import Derived.Test.YtpkaekokkhecmaaGreatDoorPxA
import Derived.Test.YtpkaekokkhecmaaGreatDoorPwP
import Derived.Test.YtpkaekokkhecmaaGreatDoorTrX1
import Derived.Test.YtpkaekokkhecmaaGreatDoorTrB
namespace Go.Proofs.YtpkaekokkhecmaaGreatDoor
open Go.RowKit Lx Te
set_option linter.unusedSimpArgs false
set_option linter.unusedVariables false

theorem nn_of : ∀ (k : Exs), OkX k → Pz.NnX k
  | .nil, _ => trivial
  | .cons h k r, ⟨h1, h2, h3⟩ => ⟨h1.vb0, nn_of k h2, nn_of r h3⟩
set_option maxRecDepth 20000 in
set_option maxHeartbeats 1000000 in
theorem xback_bad (h : EH) (k : Exs) (ao : Option Addr) (cap : Nat) (w : World) (E : Int) (hE : (E != 0) = true) (hk : ExL w ao cap k) (ht : F.Tab w)
    (k1 : ∀ w1, Fr (fun _ => False) w w1 → Calls Tryz.prog 4 #[exV h (.slice ao k.len cap)] w1 fun e w' => e = .returned (.tuple #[ct [], ci E]) ∧ Fr (fun _ => False) w1 w') :
    Calls Tryz.prog 3 #[exV h (.slice ao k.len cap)] w fun e w' => e = .returned (.bool true) ∧ Fr (fun _ => False) w w' := by
  have f0 : Fr (fun _ => False) w (w.alloc (.cells #[ci h.kind, ci h.op, ct h.mod, ct h.name, ci h.vt, .int .u64 h.vb, .slice ao k.len cap] 27)) := Fr.alloc _ _ _
  go_enter Tryz.func3, Tryz.ntmps3
  go_wp2_with fail
  go_at_call 4
  refine (k1 _ f0).mono ?_
  rintro e w1 ⟨rfl, f1⟩
  have g1 := f0.same f1
  go_wp2_with fail
  go_at_call 5
  refine (alive7_any _ (tab_fr ht g1)).mono ?_
  rintro e w3 ⟨rfl, f3⟩
  go_wp2_with fail
  go_ret
  exact ⟨rfl, g1.same f3⟩
set_option maxRecDepth 20000 in
set_option maxHeartbeats 1000000 in
theorem xback_lex (h : EH) (k : Exs) (ao : Option Addr) (cap : Nat) (w : World) (T : By) (ts : List Tok) (q : Nat) (c : Int) (hc : c ≠ 0) (hT : T.length ≤ 140737488351232) (hk : ExL w ao cap k) (ht : F.Tab w)
    (k1 : ∀ w1, Fr (fun _ => False) w w1 → Calls Tryz.prog 4 #[exV h (.slice ao k.len cap)] w1 fun e w' => e = .returned (.tuple #[ct T, ci 0]) ∧ Fr (fun _ => False) w1 w')
    (hR : Hidden (lexS wordsL valS T = (ts, q, c))) (hS : Hidden (Pz.xprS T = some (none, q, c))) :
    Calls Tryz.prog 3 #[exV h (.slice ao k.len cap)] w fun e w' => e = .returned (.bool true) ∧ Fr (fun _ => False) w w' := by
  have f0 : Fr (fun _ => False) w (w.alloc (.cells #[ci h.kind, ci h.op, ct h.mod, ct h.name, ci h.vt, .int .u64 h.vb, .slice ao k.len cap] 27)) := Fr.alloc _ _ _
  have he2 : (c != 0) = true := by simpa using hc
  have he3 : (c == c) = true := by simp
  clear hc
  go_enter Tryz.func3, Tryz.ntmps3
  go_wp2_with fail
  go_at_call 4
  refine (k1 _ f0).mono ?_
  rintro e w1 ⟨rfl, f1⟩
  have g1 := f0.same f1
  have k2 := xpr_any T none q c (by omega) hS w1 (tab_fr ht g1)
  obtain ⟨A, hA⟩ : ∃ A, Pz.ex none = A := ⟨_, rfl⟩
  rw [hA] at k2
  clear hA
  go_wp2_with fail
  go_at_call 6
  refine k2.mono ?_
  rintro e w2 ⟨bo, bap, rfl, s2, f2⟩
  have g2 := g1.same f2
  have fa := Fr.alloc (fun _ => False) w2 (.cells #[ci A.1.kind, ci A.1.op, ct A.1.mod, ct A.1.name, ci A.1.vt, .int .u64 A.1.vb, .slice bo A.2.len bap] 27)
  have g3 := g2.same fa
  have kl := lex_any T ts q c (by omega) hR _ (tab_fr ht g3)
  go_wp2_with fail
  go_at_call 7
  refine kl.mono ?_
  rintro e w3 ⟨v3, rfl, r3, f3⟩
  have g4 := g3.same f3
  go_wp2_with fail
  go_at_call 5
  refine (alive7_any _ (tab_fr ht g4)).mono ?_
  rintro e w5 ⟨rfl, f5⟩
  go_wp2_with fail
  go_ret
  exact ⟨rfl, g4.same f5⟩
set_option maxRecDepth 20000 in
set_option maxHeartbeats 1000000 in
theorem xback_ok (h : EH) (k : Exs) (ao : Option Addr) (cap : Nat) (w : World) (T : By) (ts : List Tok) (hT : T.length ≤ 140737488351232) (hk : ExL w ao cap k) (ht : F.Tab w)
    (k1 : ∀ w1, Fr (fun _ => False) w w1 → Calls Tryz.prog 4 #[exV h (.slice ao k.len cap)] w1 fun e w' => e = .returned (.tuple #[ct T, ci 0]) ∧ Fr (fun _ => False) w1 w')
    (hR : Hidden (lexS wordsL valS T = (ts, 0, 0))) (hS : Hidden (Pz.xprS T = some (some (h, k), 0, 0))) :
    Calls Tryz.prog 3 #[exV h (.slice ao k.len cap)] w fun e w' => e = .returned (.bool true) ∧ Fr (fun _ => False) w w' := by
  have f0 : Fr (fun _ => False) w (w.alloc (.cells #[ci h.kind, ci h.op, ct h.mod, ct h.name, ci h.vt, .int .u64 h.vb, .slice ao k.len cap] 27)) := Fr.alloc _ _ _
  have hbx : Hidden ((w.alloc (.cells #[ci h.kind, ci h.op, ct h.mod, ct h.name, ci h.vt, .int .u64 h.vb, .slice ao k.len cap] 27)).heap[w.heap.size]? = some (.cells #[ci h.kind, ci h.op, ct h.mod, ct h.name, ci h.vt, .int .u64 h.vb, .slice ao k.len cap] 27 (0, 0))) := alloc_new _ _
  go_enter Tryz.func3, Tryz.ntmps3
  go_wp2_with fail
  go_at_call 4
  refine (k1 _ f0).mono ?_
  rintro e w1 ⟨rfl, f1⟩
  have g1 := f0.same f1
  have k2 : Calls Tryz.prog 6 #[ct T] w1 fun e w' => ∃ ao cap, e = .returned (.tuple #[.agg #[ci h.kind, ci h.op, ct h.mod, ct h.name, ci h.vt, .int .u64 h.vb, .slice ao k.len cap], ci 0, ci 0]) ∧ ExL w' ao cap k ∧ Fr (fun _ => False) w1 w' := xpr_any T (some (h, k)) 0 0 (by omega) hS w1 (tab_fr ht g1)
  go_wp2_with fail
  go_at_call 6
  refine k2.mono ?_
  rintro e w2 ⟨bo, bap, rfl, s2, f2⟩
  have g2 := g1.same f2
  have fa := Fr.alloc (fun _ => False) w2 (.cells #[ci h.kind, ci h.op, ct h.mod, ct h.name, ci h.vt, .int .u64 h.vb, .slice bo k.len bap] 27)
  have hby : Hidden ((w2.alloc (.cells #[ci h.kind, ci h.op, ct h.mod, ct h.name, ci h.vt, .int .u64 h.vb, .slice bo k.len bap] 27)).heap[w2.heap.size]? = some (.cells #[ci h.kind, ci h.op, ct h.mod, ct h.name, ci h.vt, .int .u64 h.vb, .slice bo k.len bap] 27 (0, 0))) := alloc_new _ _
  have g3 := g2.same fa
  have kl := lex_any T ts 0 0 (by omega) hR _ (tab_fr ht g3)
  go_wp2_with fail
  go_at_call 7
  refine kl.mono ?_
  rintro e w3 ⟨v3, rfl, r3, f3⟩
  have g4 := g3.same f3
  obtain ⟨c0, c1, c2, c3, c4, c5, c6⟩ := ex_box (f3.heap (fa.heap (f2.heap (f1.heap hbx (fun f => f)) (fun f => f)) (fun f => f)) (fun f => f))
  obtain ⟨d0, d1, d2, d3, d4, d5, d6⟩ := ex_box (f3.heap hby (fun f => f))
  have ks := X.sameX_any h k h k ao bo cap bap w3 (hk.keep g4) ((s2.keep fa).keep f3)
  rw [decide_eq_true (And.intro rfl rfl)] at ks
  go_wp2_with fail
  go_at_call 8
  refine ks.mono ?_
  rintro e w4 ⟨rfl, f4⟩
  have g5 := g4.same f4
  go_wp2_with fail
  go_at_call 5
  refine (alive7_any _ (tab_fr ht g5)).mono ?_
  rintro e w5 ⟨rfl, f5⟩
  go_wp2_with fail
  go_ret
  exact ⟨rfl, g5.same f5⟩
theorem parseExprBack.walk (v : Value) (h : EH) (k : Exs) (w : World) (hv : ExI w h k v) (ho : OkE h) (hx : OkX k) (hl : h.mod.length + h.name.length + In.bkX k ≤ 1048576) (ht : F.Tab w) :
    Calls Tryz.prog 3 #[v] w fun e w' => e = .returned (.bool true) ∧ Fr (fun _ => False) w w' := by
  have hlen : errX rnS cnS h k = 0 → (bare txS h k).length ≤ 20000000000 := fun he => err_text h k ho hx (by omega) he
  have k1 := fun (w1 : World) (f : Fr (fun _ => False) w w1) => text_x h k v w1 ho hx (hv.keep f) (tab_fr ht f) _ _ rfl rfl (fun he => by have := hlen he; omega)
  obtain ⟨ao, cap, rfl, hk⟩ := hv
  by_cases hE : errX rnS cnS h k = 0
  · have hle := hlen hE
    simp only [hE, if_true] at k1
    obtain ⟨ts, q, c, hR⟩ : ∃ ts q c, lexS wordsL valS (bare txS h k) = (ts, q, c) := ⟨_, _, _, rfl⟩
    by_cases hc : c = 0
    · subst hc
      have hb := Pz.xprT_back lawT lawI h k hE ho.vb0 (nn_of k hx) ts q hR (bare txS h k).length
      have hq : q = 0 := by
        rcases toks_of_lexS wordsL valS _ ts q 0 hR with ⟨_, h2, _⟩ | ⟨h2, _⟩
        · exact h2
        · exact absurd rfl h2
      subst hq
      have hS : Pz.xprS (bare txS h k) = some (some (h, k), 0, 0) := by
        unfold Pz.xprS
        rw [hR, if_pos rfl]
        exact hb
      exact xback_ok h k ao cap w _ ts (by omega) hk ht k1 hR hS
    · have hS : Pz.xprS (bare txS h k) = some (none, q, c) := by
        unfold Pz.xprS
        rw [hR, if_neg hc]
      exact xback_lex h k ao cap w _ ts q c hc (by omega) hk ht k1 hR hS
  · simp only [if_neg hE] at k1
    exact xback_bad h k ao cap w _ (by simpa using hE) hk ht k1
end Go.Proofs.YtpkaekokkhecmaaGreatDoor
