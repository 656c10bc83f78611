/- The program's depth of statements and declarations. -/
import Derived.Test.YtakkiipkmogagaaGreatTrD
namespace Go.Proofs.YtakkiipkmogagaaGreat
open Go.RowKit Te
set_option linter.unusedSimpArgs false
set_option linter.unusedVariables false

theorem ret_int {x y : Int} (h : x = y) : Ending.returned (.int .i64 x) = .returned (.int .i64 y) := by rw [h]
theorem dL_cons (h : EH) (k r : Exs) (a acc : Int) : dL (.cons h k r) a acc = dL r a (max acc (dX h k 1 a)) := rfl
set_option maxRecDepth 20000 in
set_option maxHeartbeats 4000000 in
theorem exprs_any (k : Exs) (a R : Int) (ao : Option Addr) (cap : Nat) (w : World) (hR : Hidden (dL k a a = R)) (hk : ExL w ao cap k) :
    Calls Tryz.prog 144 #[.slice ao k.len cap, ci a] w fun e w' => e = .returned (ci R) ∧ Fr (fun _ => False) w w' := by
  have hrest := hk.rest
  obtain ⟨hcap, hmax, _⟩ := hk
  have hlen : k.len ≤ 9223372036854775807 := by unfold maxLen at hmax; omega
  go_enter Tryz.func144, Tryz.ntmps144
  go_wp2_with fail
  go_loopg [5, 11] k.len (fun g lv iv wr => ∃ (i : Nat) (r : Exs) (acc : Int), lv = ci acc ∧ iv = ci (i : Int) ∧ i + r.len = k.len ∧ ExR w ao i r ∧ dL r a acc = R ∧ g = r.len ∧ Fr (fun _ => False) w wr)
  case atStart => exact ⟨0, k, a, rfl, rfl, by omega, hrest, hR, rfl, Fr.refl _ _⟩
  case round =>
    obtain ⟨i, r, acc, rfl, rfl, hlen2, hrow, hdk, hgk, hfr⟩ := hrel
    have hgkH : Hidden (gk = r.len) := hgk
    have hdkH : Hidden (dL r a acc = R) := hdk
    have hlenH : Hidden (i + r.len = k.len) := hlen2
    clear hgk hdk hlen2 hrest
    cases r with
    | nil =>
      have hi : i = k.len := hlenH
      subst hi
      have : acc = R := hdkH
      subst this
      go_wp2_with fail
      go_ret
      exact ⟨rfl, hfr⟩
    | cons h' k' r' =>
      have hil : i < k.len := by have : i + (r'.len + 1) = k.len := hlenH; omega
      obtain ⟨b, off, ao', cap', rfl, hL, hrow2, d0, d1, d2, d3, d4, d5, d6⟩ := hrow.next
      have d0 := hfr.cellN d0
      have d1 := hfr.cellN d1
      have d2 := hfr.cellN d2
      have d3 := hfr.cellN d3
      have d4 := hfr.cellN d4
      have d5 := hfr.cellN d5
      have d6 := hfr.cellN d6
      have ke := depth_any h' k'
      unfold DepthC at ke
      go_wp2_with fail
      go_at_call 149
      have f2 := hfr.same (Fr.alloc (fun _ => False) wr (.cells #[ci h'.kind, ci h'.op, ct h'.mod, ct h'.name, ci h'.vt, .int .u64 h'.vb, .slice ao' k'.len cap'] 55))
      refine (ke _ _ _ ao' cap' _ rfl (hL.keep f2)).mono ?_
      rintro e W3 ⟨rfl, f3⟩
      go_wp2_with fail
      all_goals
        go_roundg r'.len
        case measure =>
          have : gk = r'.len + 1 := hgkH
          omega
        case rel =>
          refine ⟨i + 1, r', _, rfl, by go_num, ?_, hrow2, ?_, rfl, f2.same f3⟩
          · have : i + (r'.len + 1) = k.len := hlenH
            omega
          · rw [← (show _ = R from hdkH), dL_cons]
            congr 1
            omega

theorem hasBody_any (kind : Int) (r : Bool) (hr : Hidden (hasBody kind = r)) (w : World) : Calls Tryz.prog 175 #[ci kind] w fun e w' => e = .returned (.bool r) ∧ w' = w := by
  go_enter Tryz.func175, Tryz.ntmps175
  go_wp2
  all_goals (go_ret; refine ⟨?_, rfl⟩; rw [← (show hasBody kind = r from hr)]; clear hr)
  all_goals (simp [hasBody, *])

/-- The greatest depth of a statement. -/
def dSt (h : SH) (e : Exs) (b l : Sts) (a : Int) : Int :=
  let x1 := dL e a a
  let x2 := if hasBody h.kind || decide (0 < b.len) then max x1 (dS b (wrap64 (a + 1)) (wrap64 (a + 1))) else x1
  if h.kind = 8 ∨ 0 < l.len then max x2 (dS l (wrap64 (a + 1)) (wrap64 (a + 1))) else x2
theorem dS_cons (h : SH) (e : Exs) (b l r : Sts) (a acc : Int) : dS (.cons h e b l r) a acc = dS r a (max acc (dSt h e b l a)) := rfl
def BlockC (k : Sts) : Prop := ∀ (a R : Int) (ao : Option Addr) (cap : Nat) (w : World), Hidden (dS k a a = R) → StL w ao cap k →
  Calls Tryz.prog 145 #[.slice ao k.len cap, ci a] w fun e w' => e = .returned (ci R) ∧ Fr (fun _ => False) w w'
set_option maxRecDepth 20000 in
set_option maxHeartbeats 4000000 in
theorem stmt_step (h : SH) (e : Exs) (b l : Sts) (kb : BlockC b) (kl : BlockC l) (a R : Int) (hR : Hidden (dSt h e b l a = R)) (ao1 ao2 ao3 : Option Addr) (cap1 cap2 cap3 : Nat) (w : World) (he : ExL w ao1 cap1 e) (hb : StL w ao2 cap2 b) (hl : StL w ao3 cap3 l) :
    Calls Tryz.prog 160 #[stV h (.slice ao1 e.len cap1) (.slice ao2 b.len cap2) (.slice ao3 l.len cap3), ci a] w fun e w' => e = .returned (ci R) ∧ Fr (fun _ => False) w w' := by
  have hbx : Hidden ((w.alloc (.cells #[ci h.kind, ct h.name, .slice ao1 e.len cap1, .slice ao2 b.len cap2, .slice ao3 l.len cap3] 195)).heap[w.heap.size]? = some (.cells #[ci h.kind, ct h.name, .slice ao1 e.len cap1, .slice ao2 b.len cap2, .slice ao3 l.len cap3] 195 (0, 0))) := alloc_new _ _
  have hfr0 : Fr (fun _ => False) w (w.alloc (.cells #[ci h.kind, ct h.name, .slice ao1 e.len cap1, .slice ao2 b.len cap2, .slice ao3 l.len cap3] 195)) := Fr.alloc _ _ _
  have ke := exprs_any e a _ ao1 cap1 _ rfl (he.keep hfr0)
  have kh := fun w => hasBody_any h.kind _ rfl w
  unfold BlockC at kb kl
  have hR1 : Hidden ((if h.kind = 8 ∨ 0 < l.len then max (if hasBody h.kind || decide (0 < b.len) then max (dL e a a) (dS b (wrap64 (a + 1)) (wrap64 (a + 1))) else dL e a a) (dS l (wrap64 (a + 1)) (wrap64 (a + 1))) else (if hasBody h.kind || decide (0 < b.len) then max (dL e a a) (dS b (wrap64 (a + 1)) (wrap64 (a + 1))) else dL e a a)) = R) := hR
  clear hR
  generalize hhb : hasBody h.kind = hbv at kh hR1
  have c1 : cap1 ≤ 9223372036854775807 := by have := he.2.1; unfold maxLen at this; omega
  have c2 : cap2 ≤ 9223372036854775807 := by have := hb.2.1; unfold maxLen at this; omega
  have c3 : cap3 ≤ 9223372036854775807 := by have := hl.2.1; unfold maxLen at this; omega
  have l1 := he.1
  have l2 := hb.1
  have l3 := hl.1
  clear hhb
  clear l1 l2 l3
  have tb : (hbv = true ∧ Hidden ((if hbv || decide (0 < b.len) then max (dL e a a) (dS b (wrap64 (a + 1)) (wrap64 (a + 1))) else dL e a a) = max (dL e a a) (dS b (wrap64 (a + 1)) (wrap64 (a + 1))))) ∨
      (hbv = false ∧ 0 < b.len ∧ Hidden ((if hbv || decide (0 < b.len) then max (dL e a a) (dS b (wrap64 (a + 1)) (wrap64 (a + 1))) else dL e a a) = max (dL e a a) (dS b (wrap64 (a + 1)) (wrap64 (a + 1))))) ∨
      (hbv = false ∧ ¬ 0 < b.len ∧ Hidden ((if hbv || decide (0 < b.len) then max (dL e a a) (dS b (wrap64 (a + 1)) (wrap64 (a + 1))) else dL e a a) = dL e a a)) := by
    cases hbv
    · by_cases hz : 0 < b.len
      · exact Or.inr (Or.inl ⟨rfl, hz, by simp [Hidden, hz]⟩)
      · exact Or.inr (Or.inr ⟨rfl, hz, by simp [Hidden, hz]⟩)
    · exact Or.inl ⟨rfl, by simp [Hidden]⟩
  generalize hx2 : (if hbv || decide (0 < b.len) then max (dL e a a) (dS b (wrap64 (a + 1)) (wrap64 (a + 1))) else dL e a a) = x2 at tb hR1
  clear hx2
  have tl : ((h.kind == 8) = true ∧ Hidden (max x2 (dS l (wrap64 (a + 1)) (wrap64 (a + 1))) = R)) ∨ ((h.kind == 8) = false ∧ 0 < l.len ∧ Hidden (max x2 (dS l (wrap64 (a + 1)) (wrap64 (a + 1))) = R)) ∨ ((h.kind == 8) = false ∧ ¬ 0 < l.len ∧ Hidden (x2 = R)) := by
    by_cases h8 : h.kind = 8
    · exact Or.inl ⟨by simp [h8], by rw [← (show _ = R from hR1)]; simp [Hidden, h8]⟩
    · by_cases hz : 0 < l.len
      · exact Or.inr (Or.inl ⟨by simp [h8], hz, by rw [← (show _ = R from hR1)]; simp [Hidden, h8, hz]⟩)
      · exact Or.inr (Or.inr ⟨by simp [h8], hz, by rw [← (show _ = R from hR1)]; simp [Hidden, h8, hz]⟩)
  clear hR1
  rcases tb with ⟨rfl, ex2⟩ | ⟨rfl, tb, ex2⟩ | ⟨rfl, tb, ex2⟩ <;> rcases tl with ⟨tl, eR⟩ | ⟨tl, tl2, eR⟩ | ⟨tl, tl2, eR⟩
  · go_enter Tryz.func160, Tryz.ntmps160
    go_wp2_with fail
    go_at_call 144
    refine ke.mono ?_
    rintro ee W1 ⟨rfl, f1⟩
    obtain ⟨b0, b1, b2, b3, b4⟩ := st_box (f1.heap hbx (fun f => f))
    have g1 := hfr0.same f1
    go_wp2_with fail
    go_at_call 175
    refine (kh _).mono ?_
    rintro ee W1x ⟨rfl, rfl⟩
    go_wp2_with fail
    go_at_call 145
    refine (kb _ _ ao2 cap2 _ rfl (hb.keep g1)).mono ?_
    rintro ee W2 ⟨rfl, f2⟩
    obtain ⟨b0, b1, b2, b3, b4⟩ := st_box (f2.heap (f1.heap hbx (fun f => f)) (fun f => f))
    have g2 := g1.same f2
    go_wp2_with fail
    all_goals
      go_at_call 145
      refine (kl _ _ ao3 cap3 _ rfl (hl.keep g2)).mono ?_
      rintro ee W3 ⟨rfl, f3⟩
      have g3 := g2.same f3
      go_wp2_with fail
      all_goals
        go_ret
        refine ⟨?_, g3⟩
        have ea : x2 = _ := ex2
        have eb : _ = R := eR
        clear ke kb kl kh
        refine ret_int ?_
        omega
  · go_enter Tryz.func160, Tryz.ntmps160
    go_wp2_with fail
    go_at_call 144
    refine ke.mono ?_
    rintro ee W1 ⟨rfl, f1⟩
    obtain ⟨b0, b1, b2, b3, b4⟩ := st_box (f1.heap hbx (fun f => f))
    have g1 := hfr0.same f1
    go_wp2_with fail
    go_at_call 175
    refine (kh _).mono ?_
    rintro ee W1x ⟨rfl, rfl⟩
    go_wp2_with fail
    go_at_call 145
    refine (kb _ _ ao2 cap2 _ rfl (hb.keep g1)).mono ?_
    rintro ee W2 ⟨rfl, f2⟩
    obtain ⟨b0, b1, b2, b3, b4⟩ := st_box (f2.heap (f1.heap hbx (fun f => f)) (fun f => f))
    have g2 := g1.same f2
    go_wp2_with fail
    all_goals
      go_at_call 145
      refine (kl _ _ ao3 cap3 _ rfl (hl.keep g2)).mono ?_
      rintro ee W3 ⟨rfl, f3⟩
      have g3 := g2.same f3
      go_wp2_with fail
      all_goals
        go_ret
        refine ⟨?_, g3⟩
        have ea : x2 = _ := ex2
        have eb : _ = R := eR
        clear ke kb kl kh
        refine ret_int ?_
        omega
  · go_enter Tryz.func160, Tryz.ntmps160
    go_wp2_with fail
    go_at_call 144
    refine ke.mono ?_
    rintro ee W1 ⟨rfl, f1⟩
    obtain ⟨b0, b1, b2, b3, b4⟩ := st_box (f1.heap hbx (fun f => f))
    have g1 := hfr0.same f1
    go_wp2_with fail
    go_at_call 175
    refine (kh _).mono ?_
    rintro ee W1x ⟨rfl, rfl⟩
    go_wp2_with fail
    go_at_call 145
    refine (kb _ _ ao2 cap2 _ rfl (hb.keep g1)).mono ?_
    rintro ee W2 ⟨rfl, f2⟩
    obtain ⟨b0, b1, b2, b3, b4⟩ := st_box (f2.heap (f1.heap hbx (fun f => f)) (fun f => f))
    have g2 := g1.same f2
    go_wp2_with fail
    all_goals
      go_ret
      refine ⟨?_, g2⟩
      have ea : x2 = _ := ex2
      have eb : _ = R := eR
      clear ke kb kl kh
      refine ret_int ?_
      omega
  · go_enter Tryz.func160, Tryz.ntmps160
    go_wp2_with fail
    go_at_call 144
    refine ke.mono ?_
    rintro ee W1 ⟨rfl, f1⟩
    obtain ⟨b0, b1, b2, b3, b4⟩ := st_box (f1.heap hbx (fun f => f))
    have g1 := hfr0.same f1
    go_wp2_with fail
    go_at_call 175
    refine (kh _).mono ?_
    rintro ee W1x ⟨rfl, rfl⟩
    go_wp2_with fail
    go_at_call 145
    refine (kb _ _ ao2 cap2 _ rfl (hb.keep g1)).mono ?_
    rintro ee W2 ⟨rfl, f2⟩
    obtain ⟨b0, b1, b2, b3, b4⟩ := st_box (f2.heap (f1.heap hbx (fun f => f)) (fun f => f))
    have g2 := g1.same f2
    go_wp2_with fail
    all_goals
      go_at_call 145
      refine (kl _ _ ao3 cap3 _ rfl (hl.keep g2)).mono ?_
      rintro ee W3 ⟨rfl, f3⟩
      have g3 := g2.same f3
      go_wp2_with fail
      all_goals
        go_ret
        refine ⟨?_, g3⟩
        have ea : x2 = _ := ex2
        have eb : _ = R := eR
        clear ke kb kl kh
        refine ret_int ?_
        omega
  · go_enter Tryz.func160, Tryz.ntmps160
    go_wp2_with fail
    go_at_call 144
    refine ke.mono ?_
    rintro ee W1 ⟨rfl, f1⟩
    obtain ⟨b0, b1, b2, b3, b4⟩ := st_box (f1.heap hbx (fun f => f))
    have g1 := hfr0.same f1
    go_wp2_with fail
    go_at_call 175
    refine (kh _).mono ?_
    rintro ee W1x ⟨rfl, rfl⟩
    go_wp2_with fail
    go_at_call 145
    refine (kb _ _ ao2 cap2 _ rfl (hb.keep g1)).mono ?_
    rintro ee W2 ⟨rfl, f2⟩
    obtain ⟨b0, b1, b2, b3, b4⟩ := st_box (f2.heap (f1.heap hbx (fun f => f)) (fun f => f))
    have g2 := g1.same f2
    go_wp2_with fail
    all_goals
      go_at_call 145
      refine (kl _ _ ao3 cap3 _ rfl (hl.keep g2)).mono ?_
      rintro ee W3 ⟨rfl, f3⟩
      have g3 := g2.same f3
      go_wp2_with fail
      all_goals
        go_ret
        refine ⟨?_, g3⟩
        have ea : x2 = _ := ex2
        have eb : _ = R := eR
        clear ke kb kl kh
        refine ret_int ?_
        omega
  · go_enter Tryz.func160, Tryz.ntmps160
    go_wp2_with fail
    go_at_call 144
    refine ke.mono ?_
    rintro ee W1 ⟨rfl, f1⟩
    obtain ⟨b0, b1, b2, b3, b4⟩ := st_box (f1.heap hbx (fun f => f))
    have g1 := hfr0.same f1
    go_wp2_with fail
    go_at_call 175
    refine (kh _).mono ?_
    rintro ee W1x ⟨rfl, rfl⟩
    go_wp2_with fail
    go_at_call 145
    refine (kb _ _ ao2 cap2 _ rfl (hb.keep g1)).mono ?_
    rintro ee W2 ⟨rfl, f2⟩
    obtain ⟨b0, b1, b2, b3, b4⟩ := st_box (f2.heap (f1.heap hbx (fun f => f)) (fun f => f))
    have g2 := g1.same f2
    go_wp2_with fail
    all_goals
      go_ret
      refine ⟨?_, g2⟩
      have ea : x2 = _ := ex2
      have eb : _ = R := eR
      clear ke kb kl kh
      refine ret_int ?_
      omega
  · go_enter Tryz.func160, Tryz.ntmps160
    go_wp2_with fail
    go_at_call 144
    refine ke.mono ?_
    rintro ee W1 ⟨rfl, f1⟩
    obtain ⟨b0, b1, b2, b3, b4⟩ := st_box (f1.heap hbx (fun f => f))
    have g1 := hfr0.same f1
    go_wp2_with fail
    go_at_call 175
    refine (kh _).mono ?_
    rintro ee W1x ⟨rfl, rfl⟩
    go_wp2_with fail
    go_at_call 145
    refine (kl _ _ ao3 cap3 _ rfl (hl.keep g1)).mono ?_
    rintro ee W3 ⟨rfl, f3⟩
    have g3 := g1.same f3
    go_wp2_with fail
    all_goals
      go_ret
      refine ⟨?_, g3⟩
      have ea : x2 = _ := ex2
      have eb : _ = R := eR
      clear ke kb kl kh
      refine ret_int ?_
      omega
  · go_enter Tryz.func160, Tryz.ntmps160
    go_wp2_with fail
    go_at_call 144
    refine ke.mono ?_
    rintro ee W1 ⟨rfl, f1⟩
    obtain ⟨b0, b1, b2, b3, b4⟩ := st_box (f1.heap hbx (fun f => f))
    have g1 := hfr0.same f1
    go_wp2_with fail
    go_at_call 175
    refine (kh _).mono ?_
    rintro ee W1x ⟨rfl, rfl⟩
    go_wp2_with fail
    go_at_call 145
    refine (kl _ _ ao3 cap3 _ rfl (hl.keep g1)).mono ?_
    rintro ee W3 ⟨rfl, f3⟩
    have g3 := g1.same f3
    go_wp2_with fail
    all_goals
      go_ret
      refine ⟨?_, g3⟩
      have ea : x2 = _ := ex2
      have eb : _ = R := eR
      clear ke kb kl kh
      refine ret_int ?_
      omega
  · go_enter Tryz.func160, Tryz.ntmps160
    go_wp2_with fail
    go_at_call 144
    refine ke.mono ?_
    rintro ee W1 ⟨rfl, f1⟩
    obtain ⟨b0, b1, b2, b3, b4⟩ := st_box (f1.heap hbx (fun f => f))
    have g1 := hfr0.same f1
    go_wp2_with fail
    go_at_call 175
    refine (kh _).mono ?_
    rintro ee W1x ⟨rfl, rfl⟩
    go_wp2_with fail
    go_ret
    refine ⟨?_, g1⟩
    have ea : x2 = _ := ex2
    have eb : _ = R := eR
    clear ke kb kl kh
    refine ret_int ?_
    omega
set_option maxRecDepth 20000 in
set_option maxHeartbeats 4000000 in
theorem block_step (k : Sts) (ih : ∀ k' : Sts, k'.size < k.size → BlockC k') : BlockC k := by
  intro a R ao cap w hR hk
  have hrest := hk.rest
  obtain ⟨hcap, hmax, _⟩ := hk
  have hlen : k.len ≤ 9223372036854775807 := by unfold maxLen at hmax; omega
  go_enter Tryz.func145, Tryz.ntmps145
  go_wp2_with fail
  go_loopg [5, 11] k.len (fun g lv iv wr => ∃ (i : Nat) (r : Sts) (acc : Int), lv = ci acc ∧ iv = ci (i : Int) ∧ i + r.len = k.len ∧ r.size ≤ k.size ∧ StR w ao i r ∧ dS r a acc = R ∧ g = r.len ∧ Fr (fun _ => False) w wr)
  case atStart => exact ⟨0, k, a, rfl, rfl, by omega, Nat.le_refl _, hrest, hR, rfl, Fr.refl _ _⟩
  case round =>
    obtain ⟨i, r, acc, rfl, rfl, hlen2, hsize, hrow, hdk, hgk, hfr⟩ := hrel
    have hgkH : Hidden (gk = r.len) := hgk
    have hdkH : Hidden (dS r a acc = R) := hdk
    have hlenH : Hidden (i + r.len = k.len) := hlen2
    clear hgk hdk hlen2 hrest
    cases r with
    | nil =>
      have hi : i = k.len := hlenH
      subst hi
      have : acc = R := hdkH
      subst this
      go_wp2_with fail
      go_ret
      exact ⟨rfl, hfr⟩
    | cons h' e' b' l' r' =>
      have hil : i < k.len := by have : i + (r'.len + 1) = k.len := hlenH; omega
      obtain ⟨b, off, ao1, cap1, ao2, cap2, ao3, cap3, rfl, hL1, hL2, hL3, hrow2, d0, d1, d2, d3, d4⟩ := hrow.next
      have d0 := hfr.cellN d0
      have d1 := hfr.cellN d1
      have d2 := hfr.cellN d2
      have d3 := hfr.cellN d3
      have d4 := hfr.cellN d4
      have f2 := hfr.same (Fr.alloc (fun _ => False) wr (.cells #[ci h'.kind, ct h'.name, .slice ao1 e'.len cap1, .slice ao2 b'.len cap2, .slice ao3 l'.len cap3] 195))
      simp only [Sts.size] at hsize
      have ke := stmt_step h' e' b' l' (ih b' (by omega)) (ih l' (by omega)) a _ rfl ao1 ao2 ao3 cap1 cap2 cap3 _ (hL1.keep f2) (hL2.keep f2) (hL3.keep f2)
      go_wp2_with fail
      go_at_call 160
      refine ke.mono ?_
      rintro e W3 ⟨rfl, f3⟩
      go_wp2_with fail
      all_goals
        go_roundg r'.len
        case measure =>
          have : gk = r'.len + 1 := hgkH
          omega
        case rel =>
          refine ⟨i + 1, r', _, rfl, by go_num, ?_, by omega, hrow2, ?_, rfl, f2.same f3⟩
          · have : i + (r'.len + 1) = k.len := hlenH
            omega
          · rw [← (show _ = R from hdkH), dS_cons]
            congr 1
            omega
theorem block_any (k : Sts) : BlockC k := by
  have : ∀ (n : Nat) (k : Sts), k.size < n → BlockC k := by
    intro n
    induction n with
    | zero => intro k hk; omega
    | succ n ih => intro k hk; exact block_step k (fun k' hk' => ih k' (by omega))
  exact this (k.size + 1) k (by omega)
set_option maxRecDepth 20000 in
set_option maxHeartbeats 4000000 in
theorem decl_any (d : De) (pv ev bv : Value) (R : Int) (hR : Hidden (dD d = R)) (w : World) (hd : DeI w d pv ev bv) :
    Calls Tryz.prog 123 #[deV d pv ev bv] w fun e w' => e = .returned (ci R) ∧ Fr (fun _ => False) w w' := by
  obtain ⟨ao1, cap1, ao2, cap2, ao3, cap3, rfl, rfl, rfl, hp, he, hb⟩ := hd
  have hbx : Hidden ((w.alloc (.cells #[ci d.kind, .bool d.ex, ct d.name, ci d.type, .slice ao1 d.params.length cap1, .slice ao2 d.e.len cap2, .slice ao3 d.body.len cap3] 59)).heap[w.heap.size]? = some (.cells #[ci d.kind, .bool d.ex, ct d.name, ci d.type, .slice ao1 d.params.length cap1, .slice ao2 d.e.len cap2, .slice ao3 d.body.len cap3] 59 (0, 0))) := alloc_new _ _
  have hfr0 : Fr (fun _ => False) w (w.alloc (.cells #[ci d.kind, .bool d.ex, ct d.name, ci d.type, .slice ao1 d.params.length cap1, .slice ao2 d.e.len cap2, .slice ao3 d.body.len cap3] 59)) := Fr.alloc _ _ _
  have ke := exprs_any d.e 0 _ ao2 cap2 _ rfl (he.keep hfr0)
  have kb := block_any d.body
  unfold BlockC at kb
  have c3 : cap3 ≤ 9223372036854775807 := by have := hb.2.1; unfold maxLen at this; omega
  have tb : ((d.kind == 3) = true ∧ Hidden (max (dL d.e 0 0) (dS d.body 1 1) = R)) ∨ ((d.kind == 3) = false ∧ 0 < d.body.len ∧ Hidden (max (dL d.e 0 0) (dS d.body 1 1) = R)) ∨ ((d.kind == 3) = false ∧ ¬ 0 < d.body.len ∧ Hidden (dL d.e 0 0 = R)) := by
    have hR1 : dD d = R := hR
    unfold dD at hR1
    by_cases h8 : d.kind = 3
    · exact Or.inl ⟨by simp [h8], by rw [← hR1]; simp [Hidden, h8]⟩
    · by_cases hz : 0 < d.body.len
      · exact Or.inr (Or.inl ⟨by simp [h8], hz, by rw [← hR1]; simp [Hidden, h8, hz]⟩)
      · exact Or.inr (Or.inr ⟨by simp [h8], hz, by rw [← hR1]; simp [Hidden, h8, hz]⟩)
  clear hR
  rcases tb with ⟨tb, eR⟩ | ⟨tb, tb2, eR⟩ | ⟨tb, tb2, eR⟩
  · go_enter Tryz.func123, Tryz.ntmps123
    go_wp2_with fail
    go_at_call 144
    refine ke.mono ?_
    rintro ee W1 ⟨rfl, f1⟩
    obtain ⟨b0, b1, b2, b3, b4, b5, b6⟩ := ex_box (f1.heap hbx (fun f => f))
    have g1 := hfr0.same f1
    go_wp2_with fail
    go_at_call 145
    refine (kb _ _ ao3 cap3 _ rfl (hb.keep g1)).mono ?_
    rintro ee W2 ⟨rfl, f2⟩
    have g2 := g1.same f2
    go_wp2_with fail
    all_goals
      go_ret
      refine ⟨?_, g2⟩
      have eb : _ = R := eR
      clear ke kb
      refine ret_int ?_
      omega
  · go_enter Tryz.func123, Tryz.ntmps123
    go_wp2_with fail
    go_at_call 144
    refine ke.mono ?_
    rintro ee W1 ⟨rfl, f1⟩
    obtain ⟨b0, b1, b2, b3, b4, b5, b6⟩ := ex_box (f1.heap hbx (fun f => f))
    have g1 := hfr0.same f1
    go_wp2_with fail
    go_at_call 145
    refine (kb _ _ ao3 cap3 _ rfl (hb.keep g1)).mono ?_
    rintro ee W2 ⟨rfl, f2⟩
    have g2 := g1.same f2
    go_wp2_with fail
    all_goals
      go_ret
      refine ⟨?_, g2⟩
      have eb : _ = R := eR
      clear ke kb
      refine ret_int ?_
      omega
  · go_enter Tryz.func123, Tryz.ntmps123
    go_wp2_with fail
    go_at_call 144
    refine ke.mono ?_
    rintro ee W1 ⟨rfl, f1⟩
    obtain ⟨b0, b1, b2, b3, b4, b5, b6⟩ := ex_box (f1.heap hbx (fun f => f))
    have g1 := hfr0.same f1
    go_wp2_with fail
    go_ret
    exact ⟨ret_int eR, g1⟩
end Go.Proofs.YtakkiipkmogagaaGreat
