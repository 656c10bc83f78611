/- TrX7 -/
import Derived.Test.YteijjaabngkbjaaGreatDoorTrX6B
import Derived.Test.YteijjaabngkbjaaGreatDoorTrLAll
namespace Go.Proofs.YteijjaabngkbjaaGreatDoor.X
open Go.RowKit Te
set_option linter.unusedSimpArgs false
set_option linter.unusedVariables false
def ExprC (h : EH) (k : Exs) : Prop := ∀ (ao : Option Addr) (cap : Nat) (w : World), OkE h → OkX k → ExL w ao cap k →
  Calls Tryz.prog 89 #[exV h (.slice ao k.len cap)] w fun e w' => e = .returned (ci (orE (errH rnS cnS h k.len) (errL rnS cnS k))) ∧ Fr (fun _ => False) w w'
theorem n_fr {S : Nat → Prop} {w w' : World} (h : N.Fr S w w') : Fr S w w' := ⟨h.os, h.output, h.size, h.block⟩
theorem rright_any (s : Bs) (r : Int) (hr : N.rightS s = r) (hl : OkN s) (w : World) :
    Calls Tryz.prog 40 #[ct s] w fun e w' => e = .returned (ci r) ∧ Fr (fun _ => False) w w' := (N.rright_any s r hr hl w).mono fun _ _ ⟨a, b⟩ => ⟨a, n_fr b⟩
theorem fits_kind {h : EH} {n : Nat} (hf : fitsE cnS h n = true) : h.kind = 1 ∨ h.kind = 2 ∨ h.kind = 3 ∨ h.kind = 4 ∨ h.kind = 5 ∨ h.kind = 6 ∨ h.kind = 7 ∨ h.kind = 8 := by
  unfold fitsE at hf
  by_cases h1 : h.kind = 1; · simp [h1]
  by_cases h2 : h.kind = 2; · simp [h2]
  by_cases h3 : h.kind = 3; · simp [h3]
  by_cases h4 : h.kind = 4; · simp [h4]
  by_cases h5 : h.kind = 5; · simp [h5]
  by_cases h6 : h.kind = 6; · simp [h6]
  by_cases h7 : h.kind = 7; · simp [h7]
  by_cases h8 : h.kind = 8; · simp [h8]
  simp [h1, h2, h3, h4, h5, h6, h7, h8] at hf
set_option maxRecDepth 20000 in
set_option maxHeartbeats 4000000 in
theorem expr_1 (op vt vb : Int) (mod name : Bs) (k : Exs) (ih : ∀ h' k', k'.size < k.size → ExprC h' k') (ao : Option Addr) (cap : Nat) (w : World) (ho : OkE ⟨1, op, mod, name, vt, vb⟩) (hx : OkX k) (hk : ExL w ao cap k) (hf : fitsE cnS ⟨1, op, mod, name, vt, vb⟩ k.len = true) :
    Calls Tryz.prog 89 #[exV ⟨1, op, mod, name, vt, vb⟩ (.slice ao k.len cap)] w fun e w' => e = .returned (ci (orE (errH rnS cnS ⟨1, op, mod, name, vt, vb⟩ k.len) (errL rnS cnS k))) ∧ Fr (fun _ => False) w w' := by
  have hmax : cap ≤ 9223372036854775807 := by have := hk.2.1; unfold maxLen at this; omega
  have hcap := hk.1
  have ks := fun w r hr => shaped_any ⟨1, op, mod, name, vt, vb⟩ k.len ho ao cap hk.1 hmax r hr w
  have hbx : Hidden ((w.alloc (.cells #[ci 1, ci op, ct mod, ct name, ci vt, .int .u64 vb, .slice ao k.len cap] 59)).heap[w.heap.size]? = some (.cells #[ci 1, ci op, ct mod, ct name, ci vt, .int .u64 vb, .slice ao k.len cap] 59 (0, 0))) := alloc_new _ _
  have f0 : Fr (fun _ => False) w (w.alloc (.cells #[ci 1, ci op, ct mod, ct name, ci vt, .int .u64 vb, .slice ao k.len cap] 59)) := Fr.alloc _ _ _
  by_cases h8 : k.len ≤ 8
  · have hRk : Hidden (orE (errH rnS cnS ⟨1, op, mod, name, vt, vb⟩ k.len) (errL rnS cnS k) = errL rnS cnS k) := by
      show _ = _
      have h8' : ¬ 8 < k.len := by omega
      simp only [errH, hf, if_true, nameE, rnS]; simp [orE, *]
    generalize orE (errH rnS cnS ⟨1, op, mod, name, vt, vb⟩ k.len) (errL rnS cnS k) = R at hRk ⊢
    go_enter Tryz.func89, Tryz.ntmps89
    go_wp2_with fail
    go_at_call 134
    refine (ks _ _ hf).mono ?_
    rintro e w1 ⟨rfl, f1⟩
    have y1 := f1.heap hbx (fun f => f)
    obtain ⟨c0, c1, c2, c3, c4, c5, c6⟩ := ex_box y1
    have g1 := f0.same f1
    go_wp2_with fail
    have hrest := hk.rest
    go_loopg [5] k.len (fun g iv wr => ∃ (i : Nat) (r : Exs), iv = ci (i : Int) ∧ i + r.len = k.len ∧ r.size ≤ k.size ∧ OkX r ∧ ExR w ao i r ∧ R = errL rnS cnS r ∧ g = r.len ∧ Fr (fun _ => False) w1 wr)
    case atStart => exact ⟨0, k, rfl, by omega, Nat.le_refl _, hx, hrest, hRk, rfl, Fr.refl _ _⟩
    case round =>
      obtain ⟨i, r, rfl, hlen2, hsize, hok, hrow, hdk, hgk, hfr⟩ := hrel
      have hgkH : Hidden (gk = r.len) := hgk
      have hdkH : Hidden (R = errL rnS cnS r) := hdk
      have hlenH : Hidden (i + r.len = k.len) := hlen2
      have hbw := hfr.heap y1 (fun f => f)
      obtain ⟨c0, c1, c2, c3, c4, c5, c6⟩ := ex_box hbw
      have fw := g1.same hfr
      clear hgk hdk hlen2 hrest
      cases r with
      | nil =>
        have hi : i = k.len := hlenH
        subst hi
        obtain rfl : R = 0 := hdkH
        go_wp2_with fail
        go_ret
        exact ⟨rfl, fw⟩
      | cons h' k' r' =>
        have hil : i < k.len := by have : i + (r'.len + 1) = k.len := hlenH; omega
        obtain ⟨b, off, ao', cap', rfl, hL, hrow2, d0, d1, d2, d3, d4, d5, d6⟩ := hrow.next
        have d0 := fw.cellN d0
        have d1 := fw.cellN d1
        have d2 := fw.cellN d2
        have d3 := fw.cellN d3
        have d4 := fw.cellN d4
        have d5 := fw.cellN d5
        have d6 := fw.cellN d6
        simp only [Exs.size] at hsize
        have ke := ih h' k' (by omega)
        unfold ExprC at ke
        have kc := ke ao' cap' _ hok.1 hok.2.1 (hL.keep fw)
        clear ke
        have hdk2 : Hidden (R = orE (orE (errH rnS cnS h' k'.len) (errL rnS cnS k')) (errL rnS cnS r')) := hdkH
        generalize orE (errH rnS cnS h' k'.len) (errL rnS cnS k') = x at kc hdk2
        clear hdkH
        by_cases h0 : x = 0
        · subst h0
          have hdk3 : Hidden (R = errL rnS cnS r') := hdk2
          clear hdk2
          go_wp2_with fail
          go_at_call 89
          refine kc.mono ?_
          rintro e W3 ⟨rfl, f3⟩
          go_wp2_with fail
          go_roundg r'.len
          case measure =>
            have : gk = r'.len + 1 := hgkH
            omega
          case rel =>
            refine ⟨i + 1, r', by go_num, ?_, by omega, hok.2.2, hrow2, hdk3, rfl, hfr.same f3⟩
            have : i + (r'.len + 1) = k.len := hlenH
            omega
        · have hx0 : (x != 0) = true := by simpa using h0
          have hx1 : (x == 0) = false := by simpa using h0
          have hdk3 : Hidden (x = R) := by rw [show R = _ from hdk2, orE_ne _ h0]; exact rfl
          clear hdk2 h0
          go_wp2_with fail
          go_at_call 89
          refine kc.mono ?_
          rintro e W3 ⟨rfl, f3⟩
          go_wp2_with fail
          go_ret
          exact ⟨ret_int hdk3, fw.same f3⟩
  · go_enter Tryz.func89, Tryz.ntmps89
    go_wp2_with fail
    go_at_call 134
    refine (ks _ _ hf).mono ?_
    rintro e w1 ⟨rfl, f1⟩
    have y1 := f1.heap hbx (fun f => f)
    obtain ⟨c0, c1, c2, c3, c4, c5, c6⟩ := ex_box y1
    have g1 := f0.same f1
    go_wp2_with fail
    go_ret
    refine ⟨ret_int ?_, g1⟩
    simp only [errH, hf, if_true, nameE, rnS]; simp [orE, *]
set_option maxRecDepth 20000 in
set_option maxHeartbeats 4000000 in
theorem expr_2 (op vt vb : Int) (mod name : Bs) (k : Exs) (ih : ∀ h' k', k'.size < k.size → ExprC h' k') (ao : Option Addr) (cap : Nat) (w : World) (ho : OkE ⟨2, op, mod, name, vt, vb⟩) (hx : OkX k) (hk : ExL w ao cap k) (hf : fitsE cnS ⟨2, op, mod, name, vt, vb⟩ k.len = true) :
    Calls Tryz.prog 89 #[exV ⟨2, op, mod, name, vt, vb⟩ (.slice ao k.len cap)] w fun e w' => e = .returned (ci (orE (errH rnS cnS ⟨2, op, mod, name, vt, vb⟩ k.len) (errL rnS cnS k))) ∧ Fr (fun _ => False) w w' := by
  have hmax : cap ≤ 9223372036854775807 := by have := hk.2.1; unfold maxLen at this; omega
  have hcap := hk.1
  have ks := fun w r hr => shaped_any ⟨2, op, mod, name, vt, vb⟩ k.len ho ao cap hk.1 hmax r hr w
  have hbx : Hidden ((w.alloc (.cells #[ci 2, ci op, ct mod, ct name, ci vt, .int .u64 vb, .slice ao k.len cap] 59)).heap[w.heap.size]? = some (.cells #[ci 2, ci op, ct mod, ct name, ci vt, .int .u64 vb, .slice ao k.len cap] 59 (0, 0))) := alloc_new _ _
  have f0 : Fr (fun _ => False) w (w.alloc (.cells #[ci 2, ci op, ct mod, ct name, ci vt, .int .u64 vb, .slice ao k.len cap] 59)) := Fr.alloc _ _ _
  by_cases hn : N.rightS name = 0
  · by_cases h8 : k.len ≤ 8
    · have hRk : Hidden (orE (errH rnS cnS ⟨2, op, mod, name, vt, vb⟩ k.len) (errL rnS cnS k) = errL rnS cnS k) := by
        show _ = _
        have h8' : ¬ 8 < k.len := by omega
        simp only [errH, hf, if_true, nameE, rnS]; simp [orE, *]
      generalize orE (errH rnS cnS ⟨2, op, mod, name, vt, vb⟩ k.len) (errL rnS cnS k) = R at hRk ⊢
      go_enter Tryz.func89, Tryz.ntmps89
      go_wp2_with fail
      go_at_call 134
      refine (ks _ _ hf).mono ?_
      rintro e w1 ⟨rfl, f1⟩
      have y1 := f1.heap hbx (fun f => f)
      obtain ⟨c0, c1, c2, c3, c4, c5, c6⟩ := ex_box y1
      have g1 := f0.same f1
      go_wp2_with fail
      go_at_call 40
      refine (rright_any name _ hn ho.name _).mono ?_
      rintro e w2 ⟨rfl, f2⟩
      have y2 := f2.heap y1 (fun f => f)
      obtain ⟨c0, c1, c2, c3, c4, c5, c6⟩ := ex_box y2
      have g2 := g1.same f2
      go_wp2_with fail
      have hrest := hk.rest
      go_loopg [5] k.len (fun g iv wr => ∃ (i : Nat) (r : Exs), iv = ci (i : Int) ∧ i + r.len = k.len ∧ r.size ≤ k.size ∧ OkX r ∧ ExR w ao i r ∧ R = errL rnS cnS r ∧ g = r.len ∧ Fr (fun _ => False) w2 wr)
      case atStart => exact ⟨0, k, rfl, by omega, Nat.le_refl _, hx, hrest, hRk, rfl, Fr.refl _ _⟩
      case round =>
        obtain ⟨i, r, rfl, hlen2, hsize, hok, hrow, hdk, hgk, hfr⟩ := hrel
        have hgkH : Hidden (gk = r.len) := hgk
        have hdkH : Hidden (R = errL rnS cnS r) := hdk
        have hlenH : Hidden (i + r.len = k.len) := hlen2
        have hbw := hfr.heap y2 (fun f => f)
        obtain ⟨c0, c1, c2, c3, c4, c5, c6⟩ := ex_box hbw
        have fw := g2.same hfr
        clear hgk hdk hlen2 hrest
        cases r with
        | nil =>
          have hi : i = k.len := hlenH
          subst hi
          obtain rfl : R = 0 := hdkH
          go_wp2_with fail
          go_ret
          exact ⟨rfl, fw⟩
        | cons h' k' r' =>
          have hil : i < k.len := by have : i + (r'.len + 1) = k.len := hlenH; omega
          obtain ⟨b, off, ao', cap', rfl, hL, hrow2, d0, d1, d2, d3, d4, d5, d6⟩ := hrow.next
          have d0 := fw.cellN d0
          have d1 := fw.cellN d1
          have d2 := fw.cellN d2
          have d3 := fw.cellN d3
          have d4 := fw.cellN d4
          have d5 := fw.cellN d5
          have d6 := fw.cellN d6
          simp only [Exs.size] at hsize
          have ke := ih h' k' (by omega)
          unfold ExprC at ke
          have kc := ke ao' cap' _ hok.1 hok.2.1 (hL.keep fw)
          clear ke
          have hdk2 : Hidden (R = orE (orE (errH rnS cnS h' k'.len) (errL rnS cnS k')) (errL rnS cnS r')) := hdkH
          generalize orE (errH rnS cnS h' k'.len) (errL rnS cnS k') = x at kc hdk2
          clear hdkH
          by_cases h0 : x = 0
          · subst h0
            have hdk3 : Hidden (R = errL rnS cnS r') := hdk2
            clear hdk2
            go_wp2_with fail
            go_at_call 89
            refine kc.mono ?_
            rintro e W3 ⟨rfl, f3⟩
            go_wp2_with fail
            go_roundg r'.len
            case measure =>
              have : gk = r'.len + 1 := hgkH
              omega
            case rel =>
              refine ⟨i + 1, r', by go_num, ?_, by omega, hok.2.2, hrow2, hdk3, rfl, hfr.same f3⟩
              have : i + (r'.len + 1) = k.len := hlenH
              omega
          · have hx0 : (x != 0) = true := by simpa using h0
            have hx1 : (x == 0) = false := by simpa using h0
            have hdk3 : Hidden (x = R) := by rw [show R = _ from hdk2, orE_ne _ h0]; exact rfl
            clear hdk2 h0
            go_wp2_with fail
            go_at_call 89
            refine kc.mono ?_
            rintro e W3 ⟨rfl, f3⟩
            go_wp2_with fail
            go_ret
            exact ⟨ret_int hdk3, fw.same f3⟩
    · go_enter Tryz.func89, Tryz.ntmps89
      go_wp2_with fail
      go_at_call 134
      refine (ks _ _ hf).mono ?_
      rintro e w1 ⟨rfl, f1⟩
      have y1 := f1.heap hbx (fun f => f)
      obtain ⟨c0, c1, c2, c3, c4, c5, c6⟩ := ex_box y1
      have g1 := f0.same f1
      go_wp2_with fail
      go_at_call 40
      refine (rright_any name _ hn ho.name _).mono ?_
      rintro e w2 ⟨rfl, f2⟩
      have y2 := f2.heap y1 (fun f => f)
      obtain ⟨c0, c1, c2, c3, c4, c5, c6⟩ := ex_box y2
      have g2 := g1.same f2
      go_wp2_with fail
      go_ret
      refine ⟨ret_int ?_, g2⟩
      simp only [errH, hf, if_true, nameE, rnS]; simp [orE, *]
  · obtain ⟨x, hxx⟩ : ∃ x, N.rightS name = x := ⟨_, rfl⟩
    have hx0 : (x != 0) = true := by rw [← hxx]; simpa using hn
    have hx1 : (x == 0) = false := by rw [← hxx]; simpa using hn
    have hx2 : ¬ x = 0 := by rw [← hxx]; exact hn
    go_enter Tryz.func89, Tryz.ntmps89
    go_wp2_with fail
    go_at_call 134
    refine (ks _ _ hf).mono ?_
    rintro e w1 ⟨rfl, f1⟩
    have y1 := f1.heap hbx (fun f => f)
    obtain ⟨c0, c1, c2, c3, c4, c5, c6⟩ := ex_box y1
    have g1 := f0.same f1
    go_wp2_with fail
    go_at_call 40
    refine (rright_any name _ hxx ho.name _).mono ?_
    rintro e w2 ⟨rfl, f2⟩
    have y2 := f2.heap y1 (fun f => f)
    obtain ⟨c0, c1, c2, c3, c4, c5, c6⟩ := ex_box y2
    have g2 := g1.same f2
    go_wp2_with fail
    go_ret
    refine ⟨ret_int ?_, g2⟩
    simp only [errH, hf, if_true, nameE, rnS]; simp [orE, *]
set_option maxRecDepth 20000 in
set_option maxHeartbeats 4000000 in
theorem expr_3 (op vt vb : Int) (mod name : Bs) (k : Exs) (ih : ∀ h' k', k'.size < k.size → ExprC h' k') (ao : Option Addr) (cap : Nat) (w : World) (ho : OkE ⟨3, op, mod, name, vt, vb⟩) (hx : OkX k) (hk : ExL w ao cap k) (hf : fitsE cnS ⟨3, op, mod, name, vt, vb⟩ k.len = true) :
    Calls Tryz.prog 89 #[exV ⟨3, op, mod, name, vt, vb⟩ (.slice ao k.len cap)] w fun e w' => e = .returned (ci (orE (errH rnS cnS ⟨3, op, mod, name, vt, vb⟩ k.len) (errL rnS cnS k))) ∧ Fr (fun _ => False) w w' := by
  have hmax : cap ≤ 9223372036854775807 := by have := hk.2.1; unfold maxLen at this; omega
  have hcap := hk.1
  have ks := fun w r hr => shaped_any ⟨3, op, mod, name, vt, vb⟩ k.len ho ao cap hk.1 hmax r hr w
  have hbx : Hidden ((w.alloc (.cells #[ci 3, ci op, ct mod, ct name, ci vt, .int .u64 vb, .slice ao k.len cap] 59)).heap[w.heap.size]? = some (.cells #[ci 3, ci op, ct mod, ct name, ci vt, .int .u64 vb, .slice ao k.len cap] 59 (0, 0))) := alloc_new _ _
  have f0 : Fr (fun _ => False) w (w.alloc (.cells #[ci 3, ci op, ct mod, ct name, ci vt, .int .u64 vb, .slice ao k.len cap] 59)) := Fr.alloc _ _ _
  by_cases hm : N.rightS mod = 0
  · by_cases hn : N.rightS name = 0
    · by_cases h8 : k.len ≤ 8
      · have hRk : Hidden (orE (errH rnS cnS ⟨3, op, mod, name, vt, vb⟩ k.len) (errL rnS cnS k) = errL rnS cnS k) := by
          show _ = _
          have h8' : ¬ 8 < k.len := by omega
          simp only [errH, hf, if_true, nameE, rnS]; simp [orE, *]
        generalize orE (errH rnS cnS ⟨3, op, mod, name, vt, vb⟩ k.len) (errL rnS cnS k) = R at hRk ⊢
        go_enter Tryz.func89, Tryz.ntmps89
        go_wp2_with fail
        go_at_call 134
        refine (ks _ _ hf).mono ?_
        rintro e w1 ⟨rfl, f1⟩
        have y1 := f1.heap hbx (fun f => f)
        obtain ⟨c0, c1, c2, c3, c4, c5, c6⟩ := ex_box y1
        have g1 := f0.same f1
        go_wp2_with fail
        go_at_call 40
        refine (rright_any mod _ hm ho.mod _).mono ?_
        rintro e w2 ⟨rfl, f2⟩
        have y2 := f2.heap y1 (fun f => f)
        obtain ⟨c0, c1, c2, c3, c4, c5, c6⟩ := ex_box y2
        have g2 := g1.same f2
        go_wp2_with fail
        go_at_call 40
        refine (rright_any name _ hn ho.name _).mono ?_
        rintro e w3 ⟨rfl, f3⟩
        have y3 := f3.heap y2 (fun f => f)
        obtain ⟨c0, c1, c2, c3, c4, c5, c6⟩ := ex_box y3
        have g3 := g2.same f3
        go_wp2_with fail
        have hrest := hk.rest
        go_loopg [5] k.len (fun g iv wr => ∃ (i : Nat) (r : Exs), iv = ci (i : Int) ∧ i + r.len = k.len ∧ r.size ≤ k.size ∧ OkX r ∧ ExR w ao i r ∧ R = errL rnS cnS r ∧ g = r.len ∧ Fr (fun _ => False) w3 wr)
        case atStart => exact ⟨0, k, rfl, by omega, Nat.le_refl _, hx, hrest, hRk, rfl, Fr.refl _ _⟩
        case round =>
          obtain ⟨i, r, rfl, hlen2, hsize, hok, hrow, hdk, hgk, hfr⟩ := hrel
          have hgkH : Hidden (gk = r.len) := hgk
          have hdkH : Hidden (R = errL rnS cnS r) := hdk
          have hlenH : Hidden (i + r.len = k.len) := hlen2
          have hbw := hfr.heap y3 (fun f => f)
          obtain ⟨c0, c1, c2, c3, c4, c5, c6⟩ := ex_box hbw
          have fw := g3.same hfr
          clear hgk hdk hlen2 hrest
          cases r with
          | nil =>
            have hi : i = k.len := hlenH
            subst hi
            obtain rfl : R = 0 := hdkH
            go_wp2_with fail
            go_ret
            exact ⟨rfl, fw⟩
          | cons h' k' r' =>
            have hil : i < k.len := by have : i + (r'.len + 1) = k.len := hlenH; omega
            obtain ⟨b, off, ao', cap', rfl, hL, hrow2, d0, d1, d2, d3, d4, d5, d6⟩ := hrow.next
            have d0 := fw.cellN d0
            have d1 := fw.cellN d1
            have d2 := fw.cellN d2
            have d3 := fw.cellN d3
            have d4 := fw.cellN d4
            have d5 := fw.cellN d5
            have d6 := fw.cellN d6
            simp only [Exs.size] at hsize
            have ke := ih h' k' (by omega)
            unfold ExprC at ke
            have kc := ke ao' cap' _ hok.1 hok.2.1 (hL.keep fw)
            clear ke
            have hdk2 : Hidden (R = orE (orE (errH rnS cnS h' k'.len) (errL rnS cnS k')) (errL rnS cnS r')) := hdkH
            generalize orE (errH rnS cnS h' k'.len) (errL rnS cnS k') = x at kc hdk2
            clear hdkH
            by_cases h0 : x = 0
            · subst h0
              have hdk3 : Hidden (R = errL rnS cnS r') := hdk2
              clear hdk2
              go_wp2_with fail
              go_at_call 89
              refine kc.mono ?_
              rintro e W3 ⟨rfl, f3⟩
              go_wp2_with fail
              go_roundg r'.len
              case measure =>
                have : gk = r'.len + 1 := hgkH
                omega
              case rel =>
                refine ⟨i + 1, r', by go_num, ?_, by omega, hok.2.2, hrow2, hdk3, rfl, hfr.same f3⟩
                have : i + (r'.len + 1) = k.len := hlenH
                omega
            · have hx0 : (x != 0) = true := by simpa using h0
              have hx1 : (x == 0) = false := by simpa using h0
              have hdk3 : Hidden (x = R) := by rw [show R = _ from hdk2, orE_ne _ h0]; exact rfl
              clear hdk2 h0
              go_wp2_with fail
              go_at_call 89
              refine kc.mono ?_
              rintro e W3 ⟨rfl, f3⟩
              go_wp2_with fail
              go_ret
              exact ⟨ret_int hdk3, fw.same f3⟩
      · go_enter Tryz.func89, Tryz.ntmps89
        go_wp2_with fail
        go_at_call 134
        refine (ks _ _ hf).mono ?_
        rintro e w1 ⟨rfl, f1⟩
        have y1 := f1.heap hbx (fun f => f)
        obtain ⟨c0, c1, c2, c3, c4, c5, c6⟩ := ex_box y1
        have g1 := f0.same f1
        go_wp2_with fail
        go_at_call 40
        refine (rright_any mod _ hm ho.mod _).mono ?_
        rintro e w2 ⟨rfl, f2⟩
        have y2 := f2.heap y1 (fun f => f)
        obtain ⟨c0, c1, c2, c3, c4, c5, c6⟩ := ex_box y2
        have g2 := g1.same f2
        go_wp2_with fail
        go_at_call 40
        refine (rright_any name _ hn ho.name _).mono ?_
        rintro e w3 ⟨rfl, f3⟩
        have y3 := f3.heap y2 (fun f => f)
        obtain ⟨c0, c1, c2, c3, c4, c5, c6⟩ := ex_box y3
        have g3 := g2.same f3
        go_wp2_with fail
        go_ret
        refine ⟨ret_int ?_, g3⟩
        simp only [errH, hf, if_true, nameE, rnS]; simp [orE, *]
    · obtain ⟨x, hxx⟩ : ∃ x, N.rightS name = x := ⟨_, rfl⟩
      have hx0 : (x != 0) = true := by rw [← hxx]; simpa using hn
      have hx1 : (x == 0) = false := by rw [← hxx]; simpa using hn
      have hx2 : ¬ x = 0 := by rw [← hxx]; exact hn
      go_enter Tryz.func89, Tryz.ntmps89
      go_wp2_with fail
      go_at_call 134
      refine (ks _ _ hf).mono ?_
      rintro e w1 ⟨rfl, f1⟩
      have y1 := f1.heap hbx (fun f => f)
      obtain ⟨c0, c1, c2, c3, c4, c5, c6⟩ := ex_box y1
      have g1 := f0.same f1
      go_wp2_with fail
      go_at_call 40
      refine (rright_any mod _ hm ho.mod _).mono ?_
      rintro e w2 ⟨rfl, f2⟩
      have y2 := f2.heap y1 (fun f => f)
      obtain ⟨c0, c1, c2, c3, c4, c5, c6⟩ := ex_box y2
      have g2 := g1.same f2
      go_wp2_with fail
      go_at_call 40
      refine (rright_any name _ hxx ho.name _).mono ?_
      rintro e w3 ⟨rfl, f3⟩
      have y3 := f3.heap y2 (fun f => f)
      obtain ⟨c0, c1, c2, c3, c4, c5, c6⟩ := ex_box y3
      have g3 := g2.same f3
      go_wp2_with fail
      go_ret
      refine ⟨ret_int ?_, g3⟩
      simp only [errH, hf, if_true, nameE, rnS]; simp [orE, *]
  · obtain ⟨x, hxx⟩ : ∃ x, N.rightS mod = x := ⟨_, rfl⟩
    have hx0 : (x != 0) = true := by rw [← hxx]; simpa using hm
    have hx1 : (x == 0) = false := by rw [← hxx]; simpa using hm
    have hx2 : ¬ x = 0 := by rw [← hxx]; exact hm
    go_enter Tryz.func89, Tryz.ntmps89
    go_wp2_with fail
    go_at_call 134
    refine (ks _ _ hf).mono ?_
    rintro e w1 ⟨rfl, f1⟩
    have y1 := f1.heap hbx (fun f => f)
    obtain ⟨c0, c1, c2, c3, c4, c5, c6⟩ := ex_box y1
    have g1 := f0.same f1
    go_wp2_with fail
    go_at_call 40
    refine (rright_any mod _ hxx ho.mod _).mono ?_
    rintro e w2 ⟨rfl, f2⟩
    have y2 := f2.heap y1 (fun f => f)
    obtain ⟨c0, c1, c2, c3, c4, c5, c6⟩ := ex_box y2
    have g2 := g1.same f2
    go_wp2_with fail
    go_ret
    refine ⟨ret_int ?_, g2⟩
    simp only [errH, hf, if_true, nameE, rnS]; simp [orE, *]
set_option maxRecDepth 20000 in
set_option maxHeartbeats 4000000 in
theorem expr_4 (op vt vb : Int) (mod name : Bs) (k : Exs) (ih : ∀ h' k', k'.size < k.size → ExprC h' k') (ao : Option Addr) (cap : Nat) (w : World) (ho : OkE ⟨4, op, mod, name, vt, vb⟩) (hx : OkX k) (hk : ExL w ao cap k) (hf : fitsE cnS ⟨4, op, mod, name, vt, vb⟩ k.len = true) :
    Calls Tryz.prog 89 #[exV ⟨4, op, mod, name, vt, vb⟩ (.slice ao k.len cap)] w fun e w' => e = .returned (ci (orE (errH rnS cnS ⟨4, op, mod, name, vt, vb⟩ k.len) (errL rnS cnS k))) ∧ Fr (fun _ => False) w w' := by
  have hmax : cap ≤ 9223372036854775807 := by have := hk.2.1; unfold maxLen at this; omega
  have hcap := hk.1
  have ks := fun w r hr => shaped_any ⟨4, op, mod, name, vt, vb⟩ k.len ho ao cap hk.1 hmax r hr w
  have hbx : Hidden ((w.alloc (.cells #[ci 4, ci op, ct mod, ct name, ci vt, .int .u64 vb, .slice ao k.len cap] 59)).heap[w.heap.size]? = some (.cells #[ci 4, ci op, ct mod, ct name, ci vt, .int .u64 vb, .slice ao k.len cap] 59 (0, 0))) := alloc_new _ _
  have f0 : Fr (fun _ => False) w (w.alloc (.cells #[ci 4, ci op, ct mod, ct name, ci vt, .int .u64 vb, .slice ao k.len cap] 59)) := Fr.alloc _ _ _
  by_cases hn : N.rightS name = 0
  · by_cases h8 : k.len ≤ 8
    · have hRk : Hidden (orE (errH rnS cnS ⟨4, op, mod, name, vt, vb⟩ k.len) (errL rnS cnS k) = errL rnS cnS k) := by
        show _ = _
        have h8' : ¬ 8 < k.len := by omega
        simp only [errH, hf, if_true, nameE, rnS]; simp [orE, *]
      generalize orE (errH rnS cnS ⟨4, op, mod, name, vt, vb⟩ k.len) (errL rnS cnS k) = R at hRk ⊢
      go_enter Tryz.func89, Tryz.ntmps89
      go_wp2_with fail
      go_at_call 134
      refine (ks _ _ hf).mono ?_
      rintro e w1 ⟨rfl, f1⟩
      have y1 := f1.heap hbx (fun f => f)
      obtain ⟨c0, c1, c2, c3, c4, c5, c6⟩ := ex_box y1
      have g1 := f0.same f1
      go_wp2_with fail
      go_at_call 40
      refine (rright_any name _ hn ho.name _).mono ?_
      rintro e w2 ⟨rfl, f2⟩
      have y2 := f2.heap y1 (fun f => f)
      obtain ⟨c0, c1, c2, c3, c4, c5, c6⟩ := ex_box y2
      have g2 := g1.same f2
      go_wp2_with fail
      have hrest := hk.rest
      go_loopg [5] k.len (fun g iv wr => ∃ (i : Nat) (r : Exs), iv = ci (i : Int) ∧ i + r.len = k.len ∧ r.size ≤ k.size ∧ OkX r ∧ ExR w ao i r ∧ R = errL rnS cnS r ∧ g = r.len ∧ Fr (fun _ => False) w2 wr)
      case atStart => exact ⟨0, k, rfl, by omega, Nat.le_refl _, hx, hrest, hRk, rfl, Fr.refl _ _⟩
      case round =>
        obtain ⟨i, r, rfl, hlen2, hsize, hok, hrow, hdk, hgk, hfr⟩ := hrel
        have hgkH : Hidden (gk = r.len) := hgk
        have hdkH : Hidden (R = errL rnS cnS r) := hdk
        have hlenH : Hidden (i + r.len = k.len) := hlen2
        have hbw := hfr.heap y2 (fun f => f)
        obtain ⟨c0, c1, c2, c3, c4, c5, c6⟩ := ex_box hbw
        have fw := g2.same hfr
        clear hgk hdk hlen2 hrest
        cases r with
        | nil =>
          have hi : i = k.len := hlenH
          subst hi
          obtain rfl : R = 0 := hdkH
          go_wp2_with fail
          go_ret
          exact ⟨rfl, fw⟩
        | cons h' k' r' =>
          have hil : i < k.len := by have : i + (r'.len + 1) = k.len := hlenH; omega
          obtain ⟨b, off, ao', cap', rfl, hL, hrow2, d0, d1, d2, d3, d4, d5, d6⟩ := hrow.next
          have d0 := fw.cellN d0
          have d1 := fw.cellN d1
          have d2 := fw.cellN d2
          have d3 := fw.cellN d3
          have d4 := fw.cellN d4
          have d5 := fw.cellN d5
          have d6 := fw.cellN d6
          simp only [Exs.size] at hsize
          have ke := ih h' k' (by omega)
          unfold ExprC at ke
          have kc := ke ao' cap' _ hok.1 hok.2.1 (hL.keep fw)
          clear ke
          have hdk2 : Hidden (R = orE (orE (errH rnS cnS h' k'.len) (errL rnS cnS k')) (errL rnS cnS r')) := hdkH
          generalize orE (errH rnS cnS h' k'.len) (errL rnS cnS k') = x at kc hdk2
          clear hdkH
          by_cases h0 : x = 0
          · subst h0
            have hdk3 : Hidden (R = errL rnS cnS r') := hdk2
            clear hdk2
            go_wp2_with fail
            go_at_call 89
            refine kc.mono ?_
            rintro e W3 ⟨rfl, f3⟩
            go_wp2_with fail
            go_roundg r'.len
            case measure =>
              have : gk = r'.len + 1 := hgkH
              omega
            case rel =>
              refine ⟨i + 1, r', by go_num, ?_, by omega, hok.2.2, hrow2, hdk3, rfl, hfr.same f3⟩
              have : i + (r'.len + 1) = k.len := hlenH
              omega
          · have hx0 : (x != 0) = true := by simpa using h0
            have hx1 : (x == 0) = false := by simpa using h0
            have hdk3 : Hidden (x = R) := by rw [show R = _ from hdk2, orE_ne _ h0]; exact rfl
            clear hdk2 h0
            go_wp2_with fail
            go_at_call 89
            refine kc.mono ?_
            rintro e W3 ⟨rfl, f3⟩
            go_wp2_with fail
            go_ret
            exact ⟨ret_int hdk3, fw.same f3⟩
    · go_enter Tryz.func89, Tryz.ntmps89
      go_wp2_with fail
      go_at_call 134
      refine (ks _ _ hf).mono ?_
      rintro e w1 ⟨rfl, f1⟩
      have y1 := f1.heap hbx (fun f => f)
      obtain ⟨c0, c1, c2, c3, c4, c5, c6⟩ := ex_box y1
      have g1 := f0.same f1
      go_wp2_with fail
      go_at_call 40
      refine (rright_any name _ hn ho.name _).mono ?_
      rintro e w2 ⟨rfl, f2⟩
      have y2 := f2.heap y1 (fun f => f)
      obtain ⟨c0, c1, c2, c3, c4, c5, c6⟩ := ex_box y2
      have g2 := g1.same f2
      go_wp2_with fail
      go_ret
      refine ⟨ret_int ?_, g2⟩
      simp only [errH, hf, if_true, nameE, rnS]; simp [orE, *]
  · obtain ⟨x, hxx⟩ : ∃ x, N.rightS name = x := ⟨_, rfl⟩
    have hx0 : (x != 0) = true := by rw [← hxx]; simpa using hn
    have hx1 : (x == 0) = false := by rw [← hxx]; simpa using hn
    have hx2 : ¬ x = 0 := by rw [← hxx]; exact hn
    go_enter Tryz.func89, Tryz.ntmps89
    go_wp2_with fail
    go_at_call 134
    refine (ks _ _ hf).mono ?_
    rintro e w1 ⟨rfl, f1⟩
    have y1 := f1.heap hbx (fun f => f)
    obtain ⟨c0, c1, c2, c3, c4, c5, c6⟩ := ex_box y1
    have g1 := f0.same f1
    go_wp2_with fail
    go_at_call 40
    refine (rright_any name _ hxx ho.name _).mono ?_
    rintro e w2 ⟨rfl, f2⟩
    have y2 := f2.heap y1 (fun f => f)
    obtain ⟨c0, c1, c2, c3, c4, c5, c6⟩ := ex_box y2
    have g2 := g1.same f2
    go_wp2_with fail
    go_ret
    refine ⟨ret_int ?_, g2⟩
    simp only [errH, hf, if_true, nameE, rnS]; simp [orE, *]
set_option maxRecDepth 20000 in
set_option maxHeartbeats 4000000 in
theorem expr_5 (op vt vb : Int) (mod name : Bs) (k : Exs) (ih : ∀ h' k', k'.size < k.size → ExprC h' k') (ao : Option Addr) (cap : Nat) (w : World) (ho : OkE ⟨5, op, mod, name, vt, vb⟩) (hx : OkX k) (hk : ExL w ao cap k) (hf : fitsE cnS ⟨5, op, mod, name, vt, vb⟩ k.len = true) :
    Calls Tryz.prog 89 #[exV ⟨5, op, mod, name, vt, vb⟩ (.slice ao k.len cap)] w fun e w' => e = .returned (ci (orE (errH rnS cnS ⟨5, op, mod, name, vt, vb⟩ k.len) (errL rnS cnS k))) ∧ Fr (fun _ => False) w w' := by
  have hmax : cap ≤ 9223372036854775807 := by have := hk.2.1; unfold maxLen at this; omega
  have hcap := hk.1
  have ks := fun w r hr => shaped_any ⟨5, op, mod, name, vt, vb⟩ k.len ho ao cap hk.1 hmax r hr w
  have hbx : Hidden ((w.alloc (.cells #[ci 5, ci op, ct mod, ct name, ci vt, .int .u64 vb, .slice ao k.len cap] 59)).heap[w.heap.size]? = some (.cells #[ci 5, ci op, ct mod, ct name, ci vt, .int .u64 vb, .slice ao k.len cap] 59 (0, 0))) := alloc_new _ _
  have f0 : Fr (fun _ => False) w (w.alloc (.cells #[ci 5, ci op, ct mod, ct name, ci vt, .int .u64 vb, .slice ao k.len cap] 59)) := Fr.alloc _ _ _
  by_cases hm : N.rightS mod = 0
  · by_cases hn : N.rightS name = 0
    · by_cases h8 : k.len ≤ 8
      · have hRk : Hidden (orE (errH rnS cnS ⟨5, op, mod, name, vt, vb⟩ k.len) (errL rnS cnS k) = errL rnS cnS k) := by
          show _ = _
          have h8' : ¬ 8 < k.len := by omega
          simp only [errH, hf, if_true, nameE, rnS]; simp [orE, *]
        generalize orE (errH rnS cnS ⟨5, op, mod, name, vt, vb⟩ k.len) (errL rnS cnS k) = R at hRk ⊢
        go_enter Tryz.func89, Tryz.ntmps89
        go_wp2_with fail
        go_at_call 134
        refine (ks _ _ hf).mono ?_
        rintro e w1 ⟨rfl, f1⟩
        have y1 := f1.heap hbx (fun f => f)
        obtain ⟨c0, c1, c2, c3, c4, c5, c6⟩ := ex_box y1
        have g1 := f0.same f1
        go_wp2_with fail
        go_at_call 40
        refine (rright_any mod _ hm ho.mod _).mono ?_
        rintro e w2 ⟨rfl, f2⟩
        have y2 := f2.heap y1 (fun f => f)
        obtain ⟨c0, c1, c2, c3, c4, c5, c6⟩ := ex_box y2
        have g2 := g1.same f2
        go_wp2_with fail
        go_at_call 40
        refine (rright_any name _ hn ho.name _).mono ?_
        rintro e w3 ⟨rfl, f3⟩
        have y3 := f3.heap y2 (fun f => f)
        obtain ⟨c0, c1, c2, c3, c4, c5, c6⟩ := ex_box y3
        have g3 := g2.same f3
        go_wp2_with fail
        have hrest := hk.rest
        go_loopg [5] k.len (fun g iv wr => ∃ (i : Nat) (r : Exs), iv = ci (i : Int) ∧ i + r.len = k.len ∧ r.size ≤ k.size ∧ OkX r ∧ ExR w ao i r ∧ R = errL rnS cnS r ∧ g = r.len ∧ Fr (fun _ => False) w3 wr)
        case atStart => exact ⟨0, k, rfl, by omega, Nat.le_refl _, hx, hrest, hRk, rfl, Fr.refl _ _⟩
        case round =>
          obtain ⟨i, r, rfl, hlen2, hsize, hok, hrow, hdk, hgk, hfr⟩ := hrel
          have hgkH : Hidden (gk = r.len) := hgk
          have hdkH : Hidden (R = errL rnS cnS r) := hdk
          have hlenH : Hidden (i + r.len = k.len) := hlen2
          have hbw := hfr.heap y3 (fun f => f)
          obtain ⟨c0, c1, c2, c3, c4, c5, c6⟩ := ex_box hbw
          have fw := g3.same hfr
          clear hgk hdk hlen2 hrest
          cases r with
          | nil =>
            have hi : i = k.len := hlenH
            subst hi
            obtain rfl : R = 0 := hdkH
            go_wp2_with fail
            go_ret
            exact ⟨rfl, fw⟩
          | cons h' k' r' =>
            have hil : i < k.len := by have : i + (r'.len + 1) = k.len := hlenH; omega
            obtain ⟨b, off, ao', cap', rfl, hL, hrow2, d0, d1, d2, d3, d4, d5, d6⟩ := hrow.next
            have d0 := fw.cellN d0
            have d1 := fw.cellN d1
            have d2 := fw.cellN d2
            have d3 := fw.cellN d3
            have d4 := fw.cellN d4
            have d5 := fw.cellN d5
            have d6 := fw.cellN d6
            simp only [Exs.size] at hsize
            have ke := ih h' k' (by omega)
            unfold ExprC at ke
            have kc := ke ao' cap' _ hok.1 hok.2.1 (hL.keep fw)
            clear ke
            have hdk2 : Hidden (R = orE (orE (errH rnS cnS h' k'.len) (errL rnS cnS k')) (errL rnS cnS r')) := hdkH
            generalize orE (errH rnS cnS h' k'.len) (errL rnS cnS k') = x at kc hdk2
            clear hdkH
            by_cases h0 : x = 0
            · subst h0
              have hdk3 : Hidden (R = errL rnS cnS r') := hdk2
              clear hdk2
              go_wp2_with fail
              go_at_call 89
              refine kc.mono ?_
              rintro e W3 ⟨rfl, f3⟩
              go_wp2_with fail
              go_roundg r'.len
              case measure =>
                have : gk = r'.len + 1 := hgkH
                omega
              case rel =>
                refine ⟨i + 1, r', by go_num, ?_, by omega, hok.2.2, hrow2, hdk3, rfl, hfr.same f3⟩
                have : i + (r'.len + 1) = k.len := hlenH
                omega
            · have hx0 : (x != 0) = true := by simpa using h0
              have hx1 : (x == 0) = false := by simpa using h0
              have hdk3 : Hidden (x = R) := by rw [show R = _ from hdk2, orE_ne _ h0]; exact rfl
              clear hdk2 h0
              go_wp2_with fail
              go_at_call 89
              refine kc.mono ?_
              rintro e W3 ⟨rfl, f3⟩
              go_wp2_with fail
              go_ret
              exact ⟨ret_int hdk3, fw.same f3⟩
      · go_enter Tryz.func89, Tryz.ntmps89
        go_wp2_with fail
        go_at_call 134
        refine (ks _ _ hf).mono ?_
        rintro e w1 ⟨rfl, f1⟩
        have y1 := f1.heap hbx (fun f => f)
        obtain ⟨c0, c1, c2, c3, c4, c5, c6⟩ := ex_box y1
        have g1 := f0.same f1
        go_wp2_with fail
        go_at_call 40
        refine (rright_any mod _ hm ho.mod _).mono ?_
        rintro e w2 ⟨rfl, f2⟩
        have y2 := f2.heap y1 (fun f => f)
        obtain ⟨c0, c1, c2, c3, c4, c5, c6⟩ := ex_box y2
        have g2 := g1.same f2
        go_wp2_with fail
        go_at_call 40
        refine (rright_any name _ hn ho.name _).mono ?_
        rintro e w3 ⟨rfl, f3⟩
        have y3 := f3.heap y2 (fun f => f)
        obtain ⟨c0, c1, c2, c3, c4, c5, c6⟩ := ex_box y3
        have g3 := g2.same f3
        go_wp2_with fail
        go_ret
        refine ⟨ret_int ?_, g3⟩
        simp only [errH, hf, if_true, nameE, rnS]; simp [orE, *]
    · obtain ⟨x, hxx⟩ : ∃ x, N.rightS name = x := ⟨_, rfl⟩
      have hx0 : (x != 0) = true := by rw [← hxx]; simpa using hn
      have hx1 : (x == 0) = false := by rw [← hxx]; simpa using hn
      have hx2 : ¬ x = 0 := by rw [← hxx]; exact hn
      go_enter Tryz.func89, Tryz.ntmps89
      go_wp2_with fail
      go_at_call 134
      refine (ks _ _ hf).mono ?_
      rintro e w1 ⟨rfl, f1⟩
      have y1 := f1.heap hbx (fun f => f)
      obtain ⟨c0, c1, c2, c3, c4, c5, c6⟩ := ex_box y1
      have g1 := f0.same f1
      go_wp2_with fail
      go_at_call 40
      refine (rright_any mod _ hm ho.mod _).mono ?_
      rintro e w2 ⟨rfl, f2⟩
      have y2 := f2.heap y1 (fun f => f)
      obtain ⟨c0, c1, c2, c3, c4, c5, c6⟩ := ex_box y2
      have g2 := g1.same f2
      go_wp2_with fail
      go_at_call 40
      refine (rright_any name _ hxx ho.name _).mono ?_
      rintro e w3 ⟨rfl, f3⟩
      have y3 := f3.heap y2 (fun f => f)
      obtain ⟨c0, c1, c2, c3, c4, c5, c6⟩ := ex_box y3
      have g3 := g2.same f3
      go_wp2_with fail
      go_ret
      refine ⟨ret_int ?_, g3⟩
      simp only [errH, hf, if_true, nameE, rnS]; simp [orE, *]
  · obtain ⟨x, hxx⟩ : ∃ x, N.rightS mod = x := ⟨_, rfl⟩
    have hx0 : (x != 0) = true := by rw [← hxx]; simpa using hm
    have hx1 : (x == 0) = false := by rw [← hxx]; simpa using hm
    have hx2 : ¬ x = 0 := by rw [← hxx]; exact hm
    go_enter Tryz.func89, Tryz.ntmps89
    go_wp2_with fail
    go_at_call 134
    refine (ks _ _ hf).mono ?_
    rintro e w1 ⟨rfl, f1⟩
    have y1 := f1.heap hbx (fun f => f)
    obtain ⟨c0, c1, c2, c3, c4, c5, c6⟩ := ex_box y1
    have g1 := f0.same f1
    go_wp2_with fail
    go_at_call 40
    refine (rright_any mod _ hxx ho.mod _).mono ?_
    rintro e w2 ⟨rfl, f2⟩
    have y2 := f2.heap y1 (fun f => f)
    obtain ⟨c0, c1, c2, c3, c4, c5, c6⟩ := ex_box y2
    have g2 := g1.same f2
    go_wp2_with fail
    go_ret
    refine ⟨ret_int ?_, g2⟩
    simp only [errH, hf, if_true, nameE, rnS]; simp [orE, *]
set_option maxRecDepth 20000 in
set_option maxHeartbeats 4000000 in
theorem expr_6 (op vt vb : Int) (mod name : Bs) (k : Exs) (ih : ∀ h' k', k'.size < k.size → ExprC h' k') (ao : Option Addr) (cap : Nat) (w : World) (ho : OkE ⟨6, op, mod, name, vt, vb⟩) (hx : OkX k) (hk : ExL w ao cap k) (hf : fitsE cnS ⟨6, op, mod, name, vt, vb⟩ k.len = true) :
    Calls Tryz.prog 89 #[exV ⟨6, op, mod, name, vt, vb⟩ (.slice ao k.len cap)] w fun e w' => e = .returned (ci (orE (errH rnS cnS ⟨6, op, mod, name, vt, vb⟩ k.len) (errL rnS cnS k))) ∧ Fr (fun _ => False) w w' := by
  have hmax : cap ≤ 9223372036854775807 := by have := hk.2.1; unfold maxLen at this; omega
  have hcap := hk.1
  have ks := fun w r hr => shaped_any ⟨6, op, mod, name, vt, vb⟩ k.len ho ao cap hk.1 hmax r hr w
  have hbx : Hidden ((w.alloc (.cells #[ci 6, ci op, ct mod, ct name, ci vt, .int .u64 vb, .slice ao k.len cap] 59)).heap[w.heap.size]? = some (.cells #[ci 6, ci op, ct mod, ct name, ci vt, .int .u64 vb, .slice ao k.len cap] 59 (0, 0))) := alloc_new _ _
  have f0 : Fr (fun _ => False) w (w.alloc (.cells #[ci 6, ci op, ct mod, ct name, ci vt, .int .u64 vb, .slice ao k.len cap] 59)) := Fr.alloc _ _ _
  by_cases h8 : k.len ≤ 8
  · have hRk : Hidden (orE (errH rnS cnS ⟨6, op, mod, name, vt, vb⟩ k.len) (errL rnS cnS k) = errL rnS cnS k) := by
      show _ = _
      have h8' : ¬ 8 < k.len := by omega
      simp only [errH, hf, if_true, nameE, rnS]; simp [orE, *]
    generalize orE (errH rnS cnS ⟨6, op, mod, name, vt, vb⟩ k.len) (errL rnS cnS k) = R at hRk ⊢
    go_enter Tryz.func89, Tryz.ntmps89
    go_wp2_with fail
    go_at_call 134
    refine (ks _ _ hf).mono ?_
    rintro e w1 ⟨rfl, f1⟩
    have y1 := f1.heap hbx (fun f => f)
    obtain ⟨c0, c1, c2, c3, c4, c5, c6⟩ := ex_box y1
    have g1 := f0.same f1
    go_wp2_with fail
    have hrest := hk.rest
    go_loopg [5] k.len (fun g iv wr => ∃ (i : Nat) (r : Exs), iv = ci (i : Int) ∧ i + r.len = k.len ∧ r.size ≤ k.size ∧ OkX r ∧ ExR w ao i r ∧ R = errL rnS cnS r ∧ g = r.len ∧ Fr (fun _ => False) w1 wr)
    case atStart => exact ⟨0, k, rfl, by omega, Nat.le_refl _, hx, hrest, hRk, rfl, Fr.refl _ _⟩
    case round =>
      obtain ⟨i, r, rfl, hlen2, hsize, hok, hrow, hdk, hgk, hfr⟩ := hrel
      have hgkH : Hidden (gk = r.len) := hgk
      have hdkH : Hidden (R = errL rnS cnS r) := hdk
      have hlenH : Hidden (i + r.len = k.len) := hlen2
      have hbw := hfr.heap y1 (fun f => f)
      obtain ⟨c0, c1, c2, c3, c4, c5, c6⟩ := ex_box hbw
      have fw := g1.same hfr
      clear hgk hdk hlen2 hrest
      cases r with
      | nil =>
        have hi : i = k.len := hlenH
        subst hi
        obtain rfl : R = 0 := hdkH
        go_wp2_with fail
        go_ret
        exact ⟨rfl, fw⟩
      | cons h' k' r' =>
        have hil : i < k.len := by have : i + (r'.len + 1) = k.len := hlenH; omega
        obtain ⟨b, off, ao', cap', rfl, hL, hrow2, d0, d1, d2, d3, d4, d5, d6⟩ := hrow.next
        have d0 := fw.cellN d0
        have d1 := fw.cellN d1
        have d2 := fw.cellN d2
        have d3 := fw.cellN d3
        have d4 := fw.cellN d4
        have d5 := fw.cellN d5
        have d6 := fw.cellN d6
        simp only [Exs.size] at hsize
        have ke := ih h' k' (by omega)
        unfold ExprC at ke
        have kc := ke ao' cap' _ hok.1 hok.2.1 (hL.keep fw)
        clear ke
        have hdk2 : Hidden (R = orE (orE (errH rnS cnS h' k'.len) (errL rnS cnS k')) (errL rnS cnS r')) := hdkH
        generalize orE (errH rnS cnS h' k'.len) (errL rnS cnS k') = x at kc hdk2
        clear hdkH
        by_cases h0 : x = 0
        · subst h0
          have hdk3 : Hidden (R = errL rnS cnS r') := hdk2
          clear hdk2
          go_wp2_with fail
          go_at_call 89
          refine kc.mono ?_
          rintro e W3 ⟨rfl, f3⟩
          go_wp2_with fail
          go_roundg r'.len
          case measure =>
            have : gk = r'.len + 1 := hgkH
            omega
          case rel =>
            refine ⟨i + 1, r', by go_num, ?_, by omega, hok.2.2, hrow2, hdk3, rfl, hfr.same f3⟩
            have : i + (r'.len + 1) = k.len := hlenH
            omega
        · have hx0 : (x != 0) = true := by simpa using h0
          have hx1 : (x == 0) = false := by simpa using h0
          have hdk3 : Hidden (x = R) := by rw [show R = _ from hdk2, orE_ne _ h0]; exact rfl
          clear hdk2 h0
          go_wp2_with fail
          go_at_call 89
          refine kc.mono ?_
          rintro e W3 ⟨rfl, f3⟩
          go_wp2_with fail
          go_ret
          exact ⟨ret_int hdk3, fw.same f3⟩
  · go_enter Tryz.func89, Tryz.ntmps89
    go_wp2_with fail
    go_at_call 134
    refine (ks _ _ hf).mono ?_
    rintro e w1 ⟨rfl, f1⟩
    have y1 := f1.heap hbx (fun f => f)
    obtain ⟨c0, c1, c2, c3, c4, c5, c6⟩ := ex_box y1
    have g1 := f0.same f1
    go_wp2_with fail
    go_ret
    refine ⟨ret_int ?_, g1⟩
    simp only [errH, hf, if_true, nameE, rnS]; simp [orE, *]
set_option maxRecDepth 20000 in
set_option maxHeartbeats 4000000 in
theorem expr_7 (op vt vb : Int) (mod name : Bs) (k : Exs) (ih : ∀ h' k', k'.size < k.size → ExprC h' k') (ao : Option Addr) (cap : Nat) (w : World) (ho : OkE ⟨7, op, mod, name, vt, vb⟩) (hx : OkX k) (hk : ExL w ao cap k) (hf : fitsE cnS ⟨7, op, mod, name, vt, vb⟩ k.len = true) :
    Calls Tryz.prog 89 #[exV ⟨7, op, mod, name, vt, vb⟩ (.slice ao k.len cap)] w fun e w' => e = .returned (ci (orE (errH rnS cnS ⟨7, op, mod, name, vt, vb⟩ k.len) (errL rnS cnS k))) ∧ Fr (fun _ => False) w w' := by
  have hmax : cap ≤ 9223372036854775807 := by have := hk.2.1; unfold maxLen at this; omega
  have hcap := hk.1
  have ks := fun w r hr => shaped_any ⟨7, op, mod, name, vt, vb⟩ k.len ho ao cap hk.1 hmax r hr w
  have hbx : Hidden ((w.alloc (.cells #[ci 7, ci op, ct mod, ct name, ci vt, .int .u64 vb, .slice ao k.len cap] 59)).heap[w.heap.size]? = some (.cells #[ci 7, ci op, ct mod, ct name, ci vt, .int .u64 vb, .slice ao k.len cap] 59 (0, 0))) := alloc_new _ _
  have f0 : Fr (fun _ => False) w (w.alloc (.cells #[ci 7, ci op, ct mod, ct name, ci vt, .int .u64 vb, .slice ao k.len cap] 59)) := Fr.alloc _ _ _
  by_cases h8 : k.len ≤ 8
  · have hRk : Hidden (orE (errH rnS cnS ⟨7, op, mod, name, vt, vb⟩ k.len) (errL rnS cnS k) = errL rnS cnS k) := by
      show _ = _
      have h8' : ¬ 8 < k.len := by omega
      simp only [errH, hf, if_true, nameE, rnS]; simp [orE, *]
    generalize orE (errH rnS cnS ⟨7, op, mod, name, vt, vb⟩ k.len) (errL rnS cnS k) = R at hRk ⊢
    go_enter Tryz.func89, Tryz.ntmps89
    go_wp2_with fail
    go_at_call 134
    refine (ks _ _ hf).mono ?_
    rintro e w1 ⟨rfl, f1⟩
    have y1 := f1.heap hbx (fun f => f)
    obtain ⟨c0, c1, c2, c3, c4, c5, c6⟩ := ex_box y1
    have g1 := f0.same f1
    go_wp2_with fail
    have hrest := hk.rest
    go_loopg [5] k.len (fun g iv wr => ∃ (i : Nat) (r : Exs), iv = ci (i : Int) ∧ i + r.len = k.len ∧ r.size ≤ k.size ∧ OkX r ∧ ExR w ao i r ∧ R = errL rnS cnS r ∧ g = r.len ∧ Fr (fun _ => False) w1 wr)
    case atStart => exact ⟨0, k, rfl, by omega, Nat.le_refl _, hx, hrest, hRk, rfl, Fr.refl _ _⟩
    case round =>
      obtain ⟨i, r, rfl, hlen2, hsize, hok, hrow, hdk, hgk, hfr⟩ := hrel
      have hgkH : Hidden (gk = r.len) := hgk
      have hdkH : Hidden (R = errL rnS cnS r) := hdk
      have hlenH : Hidden (i + r.len = k.len) := hlen2
      have hbw := hfr.heap y1 (fun f => f)
      obtain ⟨c0, c1, c2, c3, c4, c5, c6⟩ := ex_box hbw
      have fw := g1.same hfr
      clear hgk hdk hlen2 hrest
      cases r with
      | nil =>
        have hi : i = k.len := hlenH
        subst hi
        obtain rfl : R = 0 := hdkH
        go_wp2_with fail
        go_ret
        exact ⟨rfl, fw⟩
      | cons h' k' r' =>
        have hil : i < k.len := by have : i + (r'.len + 1) = k.len := hlenH; omega
        obtain ⟨b, off, ao', cap', rfl, hL, hrow2, d0, d1, d2, d3, d4, d5, d6⟩ := hrow.next
        have d0 := fw.cellN d0
        have d1 := fw.cellN d1
        have d2 := fw.cellN d2
        have d3 := fw.cellN d3
        have d4 := fw.cellN d4
        have d5 := fw.cellN d5
        have d6 := fw.cellN d6
        simp only [Exs.size] at hsize
        have ke := ih h' k' (by omega)
        unfold ExprC at ke
        have kc := ke ao' cap' _ hok.1 hok.2.1 (hL.keep fw)
        clear ke
        have hdk2 : Hidden (R = orE (orE (errH rnS cnS h' k'.len) (errL rnS cnS k')) (errL rnS cnS r')) := hdkH
        generalize orE (errH rnS cnS h' k'.len) (errL rnS cnS k') = x at kc hdk2
        clear hdkH
        by_cases h0 : x = 0
        · subst h0
          have hdk3 : Hidden (R = errL rnS cnS r') := hdk2
          clear hdk2
          go_wp2_with fail
          go_at_call 89
          refine kc.mono ?_
          rintro e W3 ⟨rfl, f3⟩
          go_wp2_with fail
          go_roundg r'.len
          case measure =>
            have : gk = r'.len + 1 := hgkH
            omega
          case rel =>
            refine ⟨i + 1, r', by go_num, ?_, by omega, hok.2.2, hrow2, hdk3, rfl, hfr.same f3⟩
            have : i + (r'.len + 1) = k.len := hlenH
            omega
        · have hx0 : (x != 0) = true := by simpa using h0
          have hx1 : (x == 0) = false := by simpa using h0
          have hdk3 : Hidden (x = R) := by rw [show R = _ from hdk2, orE_ne _ h0]; exact rfl
          clear hdk2 h0
          go_wp2_with fail
          go_at_call 89
          refine kc.mono ?_
          rintro e W3 ⟨rfl, f3⟩
          go_wp2_with fail
          go_ret
          exact ⟨ret_int hdk3, fw.same f3⟩
  · go_enter Tryz.func89, Tryz.ntmps89
    go_wp2_with fail
    go_at_call 134
    refine (ks _ _ hf).mono ?_
    rintro e w1 ⟨rfl, f1⟩
    have y1 := f1.heap hbx (fun f => f)
    obtain ⟨c0, c1, c2, c3, c4, c5, c6⟩ := ex_box y1
    have g1 := f0.same f1
    go_wp2_with fail
    go_ret
    refine ⟨ret_int ?_, g1⟩
    simp only [errH, hf, if_true, nameE, rnS]; simp [orE, *]
set_option maxRecDepth 20000 in
set_option maxHeartbeats 4000000 in
theorem expr_8 (op vt vb : Int) (mod name : Bs) (k : Exs) (ih : ∀ h' k', k'.size < k.size → ExprC h' k') (ao : Option Addr) (cap : Nat) (w : World) (ho : OkE ⟨8, op, mod, name, vt, vb⟩) (hx : OkX k) (hk : ExL w ao cap k) (hf : fitsE cnS ⟨8, op, mod, name, vt, vb⟩ k.len = true) :
    Calls Tryz.prog 89 #[exV ⟨8, op, mod, name, vt, vb⟩ (.slice ao k.len cap)] w fun e w' => e = .returned (ci (orE (errH rnS cnS ⟨8, op, mod, name, vt, vb⟩ k.len) (errL rnS cnS k))) ∧ Fr (fun _ => False) w w' := by
  have hmax : cap ≤ 9223372036854775807 := by have := hk.2.1; unfold maxLen at this; omega
  have hcap := hk.1
  have ks := fun w r hr => shaped_any ⟨8, op, mod, name, vt, vb⟩ k.len ho ao cap hk.1 hmax r hr w
  have hbx : Hidden ((w.alloc (.cells #[ci 8, ci op, ct mod, ct name, ci vt, .int .u64 vb, .slice ao k.len cap] 59)).heap[w.heap.size]? = some (.cells #[ci 8, ci op, ct mod, ct name, ci vt, .int .u64 vb, .slice ao k.len cap] 59 (0, 0))) := alloc_new _ _
  have f0 : Fr (fun _ => False) w (w.alloc (.cells #[ci 8, ci op, ct mod, ct name, ci vt, .int .u64 vb, .slice ao k.len cap] 59)) := Fr.alloc _ _ _
  by_cases h8 : k.len ≤ 8
  · have hRk : Hidden (orE (errH rnS cnS ⟨8, op, mod, name, vt, vb⟩ k.len) (errL rnS cnS k) = errL rnS cnS k) := by
      show _ = _
      have h8' : ¬ 8 < k.len := by omega
      simp only [errH, hf, if_true, nameE, rnS]; simp [orE, *]
    generalize orE (errH rnS cnS ⟨8, op, mod, name, vt, vb⟩ k.len) (errL rnS cnS k) = R at hRk ⊢
    go_enter Tryz.func89, Tryz.ntmps89
    go_wp2_with fail
    go_at_call 134
    refine (ks _ _ hf).mono ?_
    rintro e w1 ⟨rfl, f1⟩
    have y1 := f1.heap hbx (fun f => f)
    obtain ⟨c0, c1, c2, c3, c4, c5, c6⟩ := ex_box y1
    have g1 := f0.same f1
    go_wp2_with fail
    have hrest := hk.rest
    go_loopg [5] k.len (fun g iv wr => ∃ (i : Nat) (r : Exs), iv = ci (i : Int) ∧ i + r.len = k.len ∧ r.size ≤ k.size ∧ OkX r ∧ ExR w ao i r ∧ R = errL rnS cnS r ∧ g = r.len ∧ Fr (fun _ => False) w1 wr)
    case atStart => exact ⟨0, k, rfl, by omega, Nat.le_refl _, hx, hrest, hRk, rfl, Fr.refl _ _⟩
    case round =>
      obtain ⟨i, r, rfl, hlen2, hsize, hok, hrow, hdk, hgk, hfr⟩ := hrel
      have hgkH : Hidden (gk = r.len) := hgk
      have hdkH : Hidden (R = errL rnS cnS r) := hdk
      have hlenH : Hidden (i + r.len = k.len) := hlen2
      have hbw := hfr.heap y1 (fun f => f)
      obtain ⟨c0, c1, c2, c3, c4, c5, c6⟩ := ex_box hbw
      have fw := g1.same hfr
      clear hgk hdk hlen2 hrest
      cases r with
      | nil =>
        have hi : i = k.len := hlenH
        subst hi
        obtain rfl : R = 0 := hdkH
        go_wp2_with fail
        go_ret
        exact ⟨rfl, fw⟩
      | cons h' k' r' =>
        have hil : i < k.len := by have : i + (r'.len + 1) = k.len := hlenH; omega
        obtain ⟨b, off, ao', cap', rfl, hL, hrow2, d0, d1, d2, d3, d4, d5, d6⟩ := hrow.next
        have d0 := fw.cellN d0
        have d1 := fw.cellN d1
        have d2 := fw.cellN d2
        have d3 := fw.cellN d3
        have d4 := fw.cellN d4
        have d5 := fw.cellN d5
        have d6 := fw.cellN d6
        simp only [Exs.size] at hsize
        have ke := ih h' k' (by omega)
        unfold ExprC at ke
        have kc := ke ao' cap' _ hok.1 hok.2.1 (hL.keep fw)
        clear ke
        have hdk2 : Hidden (R = orE (orE (errH rnS cnS h' k'.len) (errL rnS cnS k')) (errL rnS cnS r')) := hdkH
        generalize orE (errH rnS cnS h' k'.len) (errL rnS cnS k') = x at kc hdk2
        clear hdkH
        by_cases h0 : x = 0
        · subst h0
          have hdk3 : Hidden (R = errL rnS cnS r') := hdk2
          clear hdk2
          go_wp2_with fail
          go_at_call 89
          refine kc.mono ?_
          rintro e W3 ⟨rfl, f3⟩
          go_wp2_with fail
          go_roundg r'.len
          case measure =>
            have : gk = r'.len + 1 := hgkH
            omega
          case rel =>
            refine ⟨i + 1, r', by go_num, ?_, by omega, hok.2.2, hrow2, hdk3, rfl, hfr.same f3⟩
            have : i + (r'.len + 1) = k.len := hlenH
            omega
        · have hx0 : (x != 0) = true := by simpa using h0
          have hx1 : (x == 0) = false := by simpa using h0
          have hdk3 : Hidden (x = R) := by rw [show R = _ from hdk2, orE_ne _ h0]; exact rfl
          clear hdk2 h0
          go_wp2_with fail
          go_at_call 89
          refine kc.mono ?_
          rintro e W3 ⟨rfl, f3⟩
          go_wp2_with fail
          go_ret
          exact ⟨ret_int hdk3, fw.same f3⟩
  · go_enter Tryz.func89, Tryz.ntmps89
    go_wp2_with fail
    go_at_call 134
    refine (ks _ _ hf).mono ?_
    rintro e w1 ⟨rfl, f1⟩
    have y1 := f1.heap hbx (fun f => f)
    obtain ⟨c0, c1, c2, c3, c4, c5, c6⟩ := ex_box y1
    have g1 := f0.same f1
    go_wp2_with fail
    go_ret
    refine ⟨ret_int ?_, g1⟩
    simp only [errH, hf, if_true, nameE, rnS]; simp [orE, *]
set_option maxRecDepth 20000 in
set_option maxHeartbeats 4000000 in
theorem expr_not (kind op vt vb : Int) (mod name : Bs) (k : Exs) (ih : ∀ h' k', k'.size < k.size → ExprC h' k') (ao : Option Addr) (cap : Nat) (w : World) (ho : OkE ⟨kind, op, mod, name, vt, vb⟩) (hx : OkX k) (hk : ExL w ao cap k) (hf : fitsE cnS ⟨kind, op, mod, name, vt, vb⟩ k.len = false) :
    Calls Tryz.prog 89 #[exV ⟨kind, op, mod, name, vt, vb⟩ (.slice ao k.len cap)] w fun e w' => e = .returned (ci (orE (errH rnS cnS ⟨kind, op, mod, name, vt, vb⟩ k.len) (errL rnS cnS k))) ∧ Fr (fun _ => False) w w' := by
  have hmax : cap ≤ 9223372036854775807 := by have := hk.2.1; unfold maxLen at this; omega
  have hcap := hk.1
  have ks := fun w r hr => shaped_any ⟨kind, op, mod, name, vt, vb⟩ k.len ho ao cap hk.1 hmax r hr w
  have hbx : Hidden ((w.alloc (.cells #[ci kind, ci op, ct mod, ct name, ci vt, .int .u64 vb, .slice ao k.len cap] 59)).heap[w.heap.size]? = some (.cells #[ci kind, ci op, ct mod, ct name, ci vt, .int .u64 vb, .slice ao k.len cap] 59 (0, 0))) := alloc_new _ _
  have f0 : Fr (fun _ => False) w (w.alloc (.cells #[ci kind, ci op, ct mod, ct name, ci vt, .int .u64 vb, .slice ao k.len cap] 59)) := Fr.alloc _ _ _
  go_enter Tryz.func89, Tryz.ntmps89
  go_wp2_with fail
  go_at_call 134
  refine (ks _ _ hf).mono ?_
  rintro e w1 ⟨rfl, f1⟩
  have y1 := f1.heap hbx (fun f => f)
  obtain ⟨c0, c1, c2, c3, c4, c5, c6⟩ := ex_box y1
  have g1 := f0.same f1
  go_wp2_with fail
  go_ret
  exact ⟨ret_int (by simp [errH, orE, hf]), g1⟩
theorem expr_step (h : EH) (k : Exs) (ih : ∀ h' k', k'.size < k.size → ExprC h' k') : ExprC h k := by
  intro ao cap w ho hx hk
  obtain ⟨kind, op, mod, name, vt, vb⟩ := h
  cases hf : fitsE cnS ⟨kind, op, mod, name, vt, vb⟩ k.len with
  | false => exact expr_not kind op vt vb mod name k ih ao cap w ho hx hk hf
  | true =>
    have hk8 := fits_kind hf
    simp only at hk8
    rcases hk8 with rfl | rfl | rfl | rfl | rfl | rfl | rfl | rfl
    · exact expr_1 op vt vb mod name k ih ao cap w ho hx hk hf
    · exact expr_2 op vt vb mod name k ih ao cap w ho hx hk hf
    · exact expr_3 op vt vb mod name k ih ao cap w ho hx hk hf
    · exact expr_4 op vt vb mod name k ih ao cap w ho hx hk hf
    · exact expr_5 op vt vb mod name k ih ao cap w ho hx hk hf
    · exact expr_6 op vt vb mod name k ih ao cap w ho hx hk hf
    · exact expr_7 op vt vb mod name k ih ao cap w ho hx hk hf
    · exact expr_8 op vt vb mod name k ih ao cap w ho hx hk hf
theorem expr_any (h : EH) (k : Exs) : ExprC h k := by
  have : ∀ (n : Nat) (h : EH) (k : Exs), k.size < n → ExprC h k := by
    intro n
    induction n with
    | zero => intro h k hk; omega
    | succ n ih => intro h k hk; exact expr_step h k (fun h' k' hk' => ih h' k' (by omega))
  exact this (k.size + 1) h k (by omega)
end Go.Proofs.YteijjaabngkbjaaGreatDoor.X
