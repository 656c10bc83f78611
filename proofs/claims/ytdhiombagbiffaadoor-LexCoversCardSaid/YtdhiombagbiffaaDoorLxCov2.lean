/- The law LexCovers walked. -/
import Derived.Test.YtdhiombagbiffaaDoorLxCov
namespace Go.Proofs.YtdhiombagbiffaaDoor
open Go.RowKit Lx
set_option linter.unusedSimpArgs false
set_option linter.unusedVariables false

theorem wrap_small {z : Int} (h0 : -9223372036854775808 ≤ z) (h1 : z ≤ 9223372036854775807) : IntKind.i64.wrap z = z := by
  exact IntWalk.i64_in z ⟨h0, h1⟩
theorem fr_drewN (S : Nat → Prop) (w : World) (n : Nat) : Fr S w (w.drewN n) := ⟨rfl, rfl, Nat.le_refl _, fun _ _ _ => rfl⟩
theorem val_kind (k : Nat) (x : By) (t b : Int) (h : valS k x = (t, b, 0)) : (k = 3 ↔ t = 1) ∧ (k = 4 ↔ t = 2) := by
  unfold valS at h
  by_cases h1 : k = 1
  · rw [if_pos h1] at h
    simp only [Prod.mk.injEq] at h
    omega
  · rw [if_neg h1] at h
    by_cases h3 : k = 3
    · rw [if_pos h3] at h
      split at h
      · cases h; omega
      · rename_i hz
        simp only [Prod.mk.injEq] at h
        exact absurd h.2.2 hz
    · rw [if_neg h3] at h
      by_cases h4 : k = 4
      · rw [if_pos h4] at h
        split at h
        · split at h
          · cases h; omega
          · rename_i hz
            simp only [Prod.mk.injEq] at h
            exact absurd h.2.2 hz
        · split at h
          · cases h; omega
          · rename_i hz
            simp only [Prod.mk.injEq] at h
            exact absurd h.2.2 hz
      · rw [if_neg h4] at h
        cases h
        omega
/-- From a place on behind a token: what stands there yet. -/
def Cov (l : By) (fr : Nat) (ts : List Tok) : Prop := fr ≤ l.length ∧ Toks wordsL valS (fr + gap (l.drop fr)) ((l.drop fr).drop (gap (l.drop fr))) ts
theorem cov_nil {l : By} {fr : Nat} (h : Cov l fr []) : gap (l.drop fr) = (l.drop fr).length := by
  obtain ⟨h1, h2⟩ := h
  have hg := gap_le (l.drop fr) false
  generalize hu : (l.drop fr).drop (gap (l.drop fr)) = u at h2
  cases h2
  have := congrArg List.length hu
  rw [List.length_drop, List.length_nil] at this
  simp only [gap] at this ⊢
  omega
theorem cov_cons {l : By} {fr : Nat} {t : Tok} {ts : List Tok} (h : Cov l fr (t :: ts)) :
    t.p = fr + gap (l.drop fr) ∧ t.x.length ≠ 0 ∧ t.p + t.x.length ≤ l.length ∧ (l.drop t.p).take t.x.length = t.x ∧ gap ((l.drop fr).take (t.p - fr)) = ((l.drop fr).take (t.p - fr)).length ∧
    1 ≤ t.k ∧ t.k ≤ 5 ∧ (t.k = 3 ↔ t.ty = 1) ∧ (t.k = 4 ↔ t.ty = 2) ∧ Cov l (t.p + t.x.length) ts := by
  obtain ⟨h1, h2⟩ := h
  have hg : gap (l.drop fr) ≤ (l.drop fr).length := gap_le (l.drop fr) false
  rw [List.length_drop] at hg
  generalize hu : (l.drop fr).drop (gap (l.drop fr)) = u at h2
  generalize hp : fr + gap (l.drop fr) = p at h2
  cases h2 with
  | more p x r k ty b ts hk h0 hgx hv h =>
    have hdl : l.drop p = x ++ r := by rw [← hp, ← hu, List.drop_drop]
    have hlen := congrArg List.length hdl
    rw [List.length_drop, List.length_append] at hlen
    have hx0 : x.length ≠ 0 := fun e => h0 (List.eq_nil_of_length_eq_zero e)
    have hkr := kind_range wordsL (x ++ r)
    rw [hk] at hkr
    have hvk := val_kind k x ty b hv
    refine ⟨rfl, hx0, by simp only; omega, by simp only; rw [hdl, List.take_left], ?_, hkr.1, hkr.2, hvk.1, hvk.2, by simp only; omega, ?_⟩
    · simp only
      rw [show p - fr = gapM false (l.drop fr) by rw [← hp]; simp only [gap]; omega]
      have hlt : gapM false (l.drop fr) < (l.drop fr).length := by rw [List.length_drop]; simp only [gap] at hp hg; omega
      have := gap_ahead [] (l.drop fr) false hlt
      rw [List.append_nil] at this
      show gapM false _ = _
      rw [this, List.length_take]
      simp only [gap, gapM]
      omega
    · have hdr : l.drop (p + x.length) = r := by rw [← List.drop_drop, hdl, List.drop_left]
      simp only
      rw [hdr]
      exact h
theorem cov_start {l : By} {ts : List Tok} (h : Toks wordsL valS (gap l) (l.drop (gap l)) ts) : Cov l 0 ts := ⟨by omega, by rw [List.drop_zero, Nat.zero_add]; exact h⟩

set_option maxRecDepth 20000 in
set_option maxHeartbeats 1000000 in
theorem covers_bad (l : By) (q : Nat) (er : Int) (hl : l.length ≤ 140737488351232) (hq : q ≤ l.length) (he : er ≠ 0) (hR : Hidden (lexS wordsL valS l = ([], q, er))) (w : World) (htab : F.Tab w) :
    Calls Tryd.prog 7 #[.string ⟨l.toArray⟩] w fun e w' => e = .returned (.bool true) ∧ Fr (fun _ => False) w w' := by
  have hs := str_len l
  have kl := lex_any l [] q er (by omega) hR w htab
  have he2 : (er != 0) = true := by simpa using he
  clear he
  go_enter Tryd.func7, Tryd.ntmps7
  go_wp2_with (first
    | (go_at_call 9; refine kl.mono ?_; rintro e W1 ⟨v1, rfl, r1, f1⟩; obtain ⟨ao, cap, rfl⟩ := r1.len; have ka := alive_any W1 (tab_fr htab f1); simp only [List.length_nil])
    | (go_at_call 11; refine ka.mono ?_; rintro e W2 ⟨rfl, f2⟩))
  go_ret
  exact ⟨rfl, f1.same f2⟩

set_option maxRecDepth 20000 in
set_option maxHeartbeats 1000000 in
theorem covers_ok (l : By) (ts : List Tok) (hl : l.length ≤ 4096) (hts : ts.length ≤ 1024) (hR : Hidden (lexS wordsL valS l = (ts, 0, 0))) (hcov : Hidden (Cov l 0 ts)) (w : World) (htab : F.Tab w) :
    Calls Tryd.prog 7 #[.string ⟨l.toArray⟩] w fun e w' => e = .returned (.bool true) ∧ Fr (fun _ => False) w w' := by
  have hs := str_len l
  have kl := lex_any l ts 0 0 (by omega) hR w htab
  go_enter Tryd.func7, Tryd.ntmps7
  go_wp2_with (first
    | (go_at_call 9; refine kl.mono ?_; rintro e W1 ⟨v1, rfl, r1, f1⟩; obtain ⟨ao, cap, rfl⟩ := r1.len))
  go_loopg [6, 7] ts.length (fun k fv iv wr => ∃ i fr : Nat, fv = .int .i64 (fr : Int) ∧ iv = .int .i64 (i : Int) ∧ i ≤ ts.length ∧ Cov l fr (ts.drop i) ∧ k = ts.length - i ∧ Fr (fun _ => False) W1 wr)
  case atStart => exact ⟨0, 0, rfl, rfl, by omega, hcov, rfl, Fr.refl _ _⟩
  case round =>
    obtain ⟨i, fr, rfl, rfl, hi, hc, hgk, hf⟩ := hrel
    have hgkH : Hidden (gk = ts.length - i) := hgk
    clear hgk hcov hR kl
    by_cases hil : i < ts.length
    · obtain ⟨t, ht⟩ : ∃ t, ts[i]? = some t := ⟨ts[i], List.getElem?_eq_getElem hil⟩
      obtain ⟨g, cap', hv, hn, hm, hB, hlt, hcell⟩ := r1.out (by intro e; rw [e] at hil; simp at hil)
      simp only [Value.slice.injEq, true_and] at hv
      obtain ⟨rfl, rfl⟩ := hv
      rw [show ts.drop i = t :: ts.drop (i + 1) from drop_at ht] at hc
      obtain ⟨c1, c2, c3, c4, c5, c6, c7, c8, c9, c10⟩ := cov_cons hc
      obtain ⟨k, x, ty, b, p⟩ := t
      simp only at c1 c2 c3 c4 c5 c6 c7 c8 c9 c10
      have d0 : wr.cell? ⟨g, i * 5, none⟩ = some (.int .i64 (k : Int)) := hf.cellN (hcell i _ ht 0 _ rfl)
      have d1 : wr.cell? ⟨g, i * 5 + 1, none⟩ = some (.string ⟨x.toArray⟩) := hf.cellN (hcell i _ ht 1 _ rfl)
      have d2 : wr.cell? ⟨g, i * 5 + 2, none⟩ = some (.int .i64 ty) := hf.cellN (hcell i _ ht 2 _ rfl)
      have d3 : wr.cell? ⟨g, i * 5 + 3, none⟩ = some (.int .u64 b) := hf.cellN (hcell i _ ht 3 _ rfl)
      have d4 : wr.cell? ⟨g, i * 5 + 4, none⟩ = some (.int .i64 (p : Int)) := hf.cellN (hcell i _ ht 4 _ rfl)
      clear hcell ht
      obtain ⟨y, hy⟩ : ∃ y, (l.drop fr).take (p - fr) = y := ⟨_, rfl⟩
      rw [hy] at c5
      have hfp : fr ≤ p := by omega
      have hyl : y.length ≤ l.length := by rw [← hy, List.length_take, List.length_drop]; omega
      have ke := empty_walk y (by omega) c5
      have hsl := slice_mid l fr p hfp (by omega) (by omega)
      rw [hy] at hsl
      have hsl2 : ∀ w, (Instr.slice 9 (.string ⟨l.toArray⟩) (some (.int .i64 (p : Int))) (some (.int .i64 ((p : Int) + (x.length : Int)))) none).run Tryd.prog w = .ok (.string ⟨x.toArray⟩) w := by
        intro w
        have := slice_mid l p (p + x.length) (by omega) c3 (by omega) w
        rw [show p + x.length - p = x.length by omega, c4, show ((p + x.length : Nat) : Int) = (p : Int) + (x.length : Int) by omega] at this
        exact this
      have hxs := str_len x
      have t1 : ((x.length : Int) == 0) = false := by rw [beq_eq_false_iff_ne]; omega
      have t2 : decide ((p : Int) < (fr : Int)) = false := by simp; omega
      have t3 : decide ((l.length : Int) - (x.length : Int) < (p : Int)) = false := by simp; omega
      have t4 : decide ((k : Int) < 1) = false := by simp; omega
      have t5 : decide (5 < (k : Int)) = false := by simp; omega
      have t2' : decide (p < fr) = false := by simp; omega
      have t4' : decide (k < 1) = false := by simp; omega
      have t4'' : decide (k = 0) = false := by simp; omega
      have t5' : decide (5 < k) = false := by simp; omega
      have g1 : IntKind.i64.wrap ((l.length : Int) - (x.length : Int)) = (l.length : Int) - (x.length : Int) := wrap_small (by omega) (by omega)
      have g2 : IntKind.i64.wrap ((p : Int) + (x.length : Int)) = (p : Int) + (x.length : Int) := wrap_small (by omega) (by omega)
      have t6 : (x != x) = false := by simp
      have t7 : (((k : Int) == 3) == (ty == 1)) = true := by
        rw [beq_iff_eq, Bool.eq_iff_iff]; simp only [beq_iff_eq]; omega
      have t8 : (((k : Int) == 4) == (ty == 2)) = true := by
        rw [beq_iff_eq, Bool.eq_iff_iff]; simp only [beq_iff_eq]; omega
      have c10H : Hidden (Cov l (p + x.length) (ts.drop (i + 1))) := c10
      have c3H : Hidden (p + x.length ≤ l.length) := c3
      have hpl : p ≤ 4096 := by omega
      have hxl : x.length ≤ 4096 := by omega
      clear c1 c2 c4 c5 c6 c7 c8 c9 c10 hc hy
      have e0 : (wr.alloc (.cells #[.int .i64 (k : Int), .string ⟨x.toArray⟩, .int .i64 ty, .int .u64 b, .int .i64 (p : Int)] 45 (0, 0))).cell? ⟨wr.heap.size, 0, none⟩ = some (.int .i64 (k : Int)) := cell_of_row _ _ 0 _ _ _ (alloc_new _ _)
      have e1 : (wr.alloc (.cells #[.int .i64 (k : Int), .string ⟨x.toArray⟩, .int .i64 ty, .int .u64 b, .int .i64 (p : Int)] 45 (0, 0))).cell? ⟨wr.heap.size, 1, none⟩ = some (.string ⟨x.toArray⟩) := cell_of_row _ _ 1 _ _ _ (alloc_new _ _)
      have e2 : (wr.alloc (.cells #[.int .i64 (k : Int), .string ⟨x.toArray⟩, .int .i64 ty, .int .u64 b, .int .i64 (p : Int)] 45 (0, 0))).cell? ⟨wr.heap.size, 2, none⟩ = some (.int .i64 ty) := cell_of_row _ _ 2 _ _ _ (alloc_new _ _)
      have e4 : (wr.alloc (.cells #[.int .i64 (k : Int), .string ⟨x.toArray⟩, .int .i64 ty, .int .u64 b, .int .i64 (p : Int)] 45 (0, 0))).cell? ⟨wr.heap.size, 4, none⟩ = some (.int .i64 (p : Int)) := cell_of_row _ _ 4 _ _ _ (alloc_new _ _)
      go_wp2_with fail
      go_quiet ((go_at_call 20; exact Calls.quiet_of_same (ke _)))
      go_wp2_with fail
      go_roundg (ts.length - (i + 1))
      case measure =>
        have : gk = ts.length - i := hgkH
        omega
      case rel => exact ⟨i + 1, p + x.length, by go_num, by go_num, by omega, c10H, rfl, (hf.same (Fr.alloc _ _ _)).same (fr_drewN _ _ _)⟩
    · obtain rfl : i = ts.length := by omega
      rw [List.drop_length] at hc
      have he := cov_nil hc
      have hfl := hc.1
      have ke := empty_walk (l.drop fr) (by rw [List.length_drop]; omega) he
      have hsl := slice_from l fr hfl (by omega)
      have ka := alive_any wr (tab_fr (tab_fr htab f1) hf)
      clear hc he
      go_wp2_with (first
        | (go_at_call 20; refine (ke _).mono ?_; rintro e w' ⟨rfl, rfl⟩)
        | (go_at_call 11; refine ka.mono ?_; rintro e W2 ⟨rfl, f2⟩))
      go_ret
      exact ⟨rfl, (f1.same hf).same f2⟩
theorem lexCovers.walk (l : By) (w : World) (hl : l.length ≤ 140737488351232) (htab : F.Tab w) :
    Calls Tryd.prog 7 #[.string ⟨l.toArray⟩] w fun e w' => e = .returned (.bool true) ∧ Fr (fun _ => False) w w' := by
  obtain ⟨ts, q, er, hR⟩ : ∃ ts q er, lexS wordsL valS l = (ts, q, er) := ⟨_, _, _, rfl⟩
  rcases toks_of_lexS wordsL valS l ts q er hR with ⟨rfl, rfl, h1, h2, h3⟩ | ⟨h1, rfl, h2⟩
  · exact covers_ok l ts h2 h1 hR (cov_start h3) w htab
  · exact covers_bad l q er hl h2 h1 hR w htab
end Go.Proofs.YtdhiombagbiffaaDoor
