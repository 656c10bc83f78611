/- The program's look at expressions. -/
import Derived.Test.YtfkccanjdlajlabGreatDoorTrL
import Derived.Test.YtfkccanjdlajlabGreatDoorTrF
namespace Go.Proofs.YtfkccanjdlajlabGreatDoor
open Go.RowKit Te
set_option linter.unusedSimpArgs false
set_option linter.unusedVariables false

abbrev rnS : Bs → Int := N.rightS
abbrev cnS : Int → Int := F.Fl.canonS
theorem must_yes (b : Bool) (hb : b = true) (c : Int) (w : World) : Calls Tryz.prog 57 #[.bool b, ci c] w fun e w' => e = .returned (.tuple #[]) ∧ w' = w := by subst hb; exact must_ok c w
theorem must_not (b : Bool) (hb : b = false) (c : Int) (w : World) : Calls Tryz.prog 57 #[.bool b, ci c] w fun e w' => e = gUp c ∧ w' = w := by subst hb; exact must_no c w
def LookL (k : Exs) : Prop := ∀ (ao : Option Addr) (cap : Nat) (w : World), OkX k → ExL w ao cap k →
  Calls Tryz.prog 75 #[.slice ao k.len cap] w fun e w' => e = lk (errL rnS cnS k) ∧ Fr (fun _ => False) w w'
def LookX (h : EH) (k : Exs) : Prop := ∀ (ao : Option Addr) (cap : Nat) (w : World), OkE h → OkX k → ExL w ao cap k →
  Calls Tryz.prog 59 #[exV h (.slice ao k.len cap)] w fun e w' => e = lk (orE (errH rnS cnS h k.len) (errL rnS cnS k)) ∧ Fr (fun _ => False) w w'
theorem lk_is {c d : Int} (h : d = c ∧ c ≠ 0) : lk d = .panicked [{ v := .iface 101 (.agg #[.int .i64 c]), recovered := false }] := by
  rw [h.1, lk_ne h.2]
  rfl
set_option maxRecDepth 20000 in
set_option maxHeartbeats 4000000 in
theorem lookX_2 (op vt vb : Int) (mod name : Bs) (k : Exs) (hL : LookL k) (ao : Option Addr) (cap : Nat) (w : World) (ho : OkE ⟨2, op, mod, name, vt, vb⟩) (hx : OkX k) (hk : ExL w ao cap k) :
    Calls Tryz.prog 59 #[exV ⟨2, op, mod, name, vt, vb⟩ (.slice ao k.len cap)] w fun e w' => e = lk (orE (errH rnS cnS ⟨2, op, mod, name, vt, vb⟩ k.len) (errL rnS cnS k)) ∧ Fr (fun _ => False) w w' := by
  have hmax : cap ≤ 9223372036854775807 := by have := hk.2.1; unfold maxLen at this; omega
  have kf := fun w r hr => fits_any ⟨2, op, mod, name, vt, vb⟩ k.len ho ao cap hk.1 hmax r hr w
  have hbx : Hidden ((w.alloc (.cells #[ci 2, ci op, ct mod, ct name, ci vt, .int .u64 vb, .slice ao k.len cap] 44)).heap[w.heap.size]? = some (.cells #[ci 2, ci op, ct mod, ct name, ci vt, .int .u64 vb, .slice ao k.len cap] 44 (0, 0))) := alloc_new _ _
  have f0 : Fr (fun _ => False) w (w.alloc (.cells #[ci 2, ci op, ct mod, ct name, ci vt, .int .u64 vb, .slice ao k.len cap] 44)) := Fr.alloc _ _ _
  unfold LookL at hL
  unfold gUp at *
  by_cases hf : fitsE cnS ⟨2, op, mod, name, vt, vb⟩ k.len = true
  · by_cases hn : rnS name = 0
    · by_cases h8 : k.len ≤ 8
      · by_cases h0 : errL rnS cnS k = 0
        · go_enter Tryz.func59, Tryz.ntmps59
          go_wp2_with fail
          go_at_call 74
          refine (kf _ _ hf).mono ?_
          rintro e w1 ⟨rfl, f1⟩
          obtain ⟨c0, c1, c2, c3, c4, c5, c6⟩ := ex_box (f1.heap hbx (fun f => f))
          have g1 := f0.same f1
          go_wp2_with fail
          go_at_call 57
          refine (must_yes _ (by first | rfl | (simp; omega) | simpa using hf) 1 _).mono ?_
          rintro e w2 ⟨rfl, rfl⟩
          go_wp2_with fail
          go_at_call 63
          refine (mustName_ok name hn ho.name _).mono ?_
          rintro e w2 ⟨rfl, rfl⟩
          go_wp2_with fail
          go_at_call 57
          refine (must_yes _ (by first | rfl | (simp; omega) | simpa using h8) 3 _).mono ?_
          rintro e w2 ⟨rfl, rfl⟩
          go_wp2_with fail
          go_at_call 75
          refine (hL ao cap _ hx (hk.keep g1)).mono ?_
          rw [h0, lk_0]
          rintro e w3 ⟨rfl, f3⟩
          go_wp2_with fail
          go_end0
          refine ⟨?_, g1.same f3⟩
          rw [show orE (errH rnS cnS _ k.len) (errL rnS cnS k) = 0 by simp only [errH, hf, if_true, nameE]; simp [orE, *]]
          rfl
        · go_enter Tryz.func59, Tryz.ntmps59
          go_wp2_with fail
          go_at_call 74
          refine (kf _ _ hf).mono ?_
          rintro e w1 ⟨rfl, f1⟩
          obtain ⟨c0, c1, c2, c3, c4, c5, c6⟩ := ex_box (f1.heap hbx (fun f => f))
          have g1 := f0.same f1
          go_wp2_with fail
          go_at_call 57
          refine (must_yes _ (by first | rfl | (simp; omega) | simpa using hf) 1 _).mono ?_
          rintro e w2 ⟨rfl, rfl⟩
          go_wp2_with fail
          go_at_call 63
          refine (mustName_ok name hn ho.name _).mono ?_
          rintro e w2 ⟨rfl, rfl⟩
          go_wp2_with fail
          go_at_call 57
          refine (must_yes _ (by first | rfl | (simp; omega) | simpa using h8) 3 _).mono ?_
          rintro e w2 ⟨rfl, rfl⟩
          go_wp2_with fail
          go_at_call 75
          refine (hL ao cap _ hx (hk.keep g1)).mono ?_
          rw [lk_ne h0]
          unfold gUp
          rintro e w3 ⟨rfl, f3⟩
          go_wp2_with fail
          exact ⟨rfl, (lk_is ⟨by simp only [errH, hf, if_true, nameE]; simp [orE, *], h0⟩).symm, g1.same f3⟩
      · go_enter Tryz.func59, Tryz.ntmps59
        go_wp2_with fail
        go_at_call 74
        refine (kf _ _ hf).mono ?_
        rintro e w1 ⟨rfl, f1⟩
        obtain ⟨c0, c1, c2, c3, c4, c5, c6⟩ := ex_box (f1.heap hbx (fun f => f))
        have g1 := f0.same f1
        go_wp2_with fail
        go_at_call 57
        refine (must_yes _ (by first | rfl | (simp; omega) | simpa using hf) 1 _).mono ?_
        rintro e w2 ⟨rfl, rfl⟩
        go_wp2_with fail
        go_at_call 63
        refine (mustName_ok name hn ho.name _).mono ?_
        rintro e w2 ⟨rfl, rfl⟩
        go_wp2_with fail
        go_at_call 57
        refine (must_not _ (by first | rfl | (simp; omega) | simpa using h8) 3 _).mono ?_
        unfold gUp
        rintro e w2 ⟨rfl, rfl⟩
        go_wp2_with fail
        exact ⟨rfl, (lk_is ⟨by simp only [errH, hf, if_true, nameE]; simp [orE, *], by decide⟩).symm, g1⟩
    · go_enter Tryz.func59, Tryz.ntmps59
      go_wp2_with fail
      go_at_call 74
      refine (kf _ _ hf).mono ?_
      rintro e w1 ⟨rfl, f1⟩
      obtain ⟨c0, c1, c2, c3, c4, c5, c6⟩ := ex_box (f1.heap hbx (fun f => f))
      have g1 := f0.same f1
      go_wp2_with fail
      go_at_call 57
      refine (must_yes _ (by first | rfl | (simp; omega) | simpa using hf) 1 _).mono ?_
      rintro e w2 ⟨rfl, rfl⟩
      go_wp2_with fail
      go_at_call 63
      refine (mustName_no name _ rfl hn ho.name _).mono ?_
      unfold gUp
      rintro e w2 ⟨rfl, rfl⟩
      go_wp2_with fail
      exact ⟨rfl, (lk_is ⟨by simp only [errH, hf, if_true, nameE]; simp [orE, *], hn⟩).symm, g1⟩
  · replace hf : fitsE cnS ⟨2, op, mod, name, vt, vb⟩ k.len = false := by simpa using hf
    go_enter Tryz.func59, Tryz.ntmps59
    go_wp2_with fail
    go_at_call 74
    refine (kf _ _ hf).mono ?_
    rintro e w1 ⟨rfl, f1⟩
    obtain ⟨c0, c1, c2, c3, c4, c5, c6⟩ := ex_box (f1.heap hbx (fun f => f))
    have g1 := f0.same f1
    go_wp2_with fail
    go_at_call 57
    refine (must_not _ (by first | rfl | (simp; omega) | simpa using hf) 1 _).mono ?_
    unfold gUp
    rintro e w2 ⟨rfl, rfl⟩
    go_wp2_with fail
    exact ⟨rfl, (lk_is ⟨by simp [errH, orE, hf], by decide⟩).symm, g1⟩
set_option maxRecDepth 20000 in
set_option maxHeartbeats 4000000 in
theorem lookX_4 (op vt vb : Int) (mod name : Bs) (k : Exs) (hL : LookL k) (ao : Option Addr) (cap : Nat) (w : World) (ho : OkE ⟨4, op, mod, name, vt, vb⟩) (hx : OkX k) (hk : ExL w ao cap k) :
    Calls Tryz.prog 59 #[exV ⟨4, op, mod, name, vt, vb⟩ (.slice ao k.len cap)] w fun e w' => e = lk (orE (errH rnS cnS ⟨4, op, mod, name, vt, vb⟩ k.len) (errL rnS cnS k)) ∧ Fr (fun _ => False) w w' := by
  have hmax : cap ≤ 9223372036854775807 := by have := hk.2.1; unfold maxLen at this; omega
  have kf := fun w r hr => fits_any ⟨4, op, mod, name, vt, vb⟩ k.len ho ao cap hk.1 hmax r hr w
  have hbx : Hidden ((w.alloc (.cells #[ci 4, ci op, ct mod, ct name, ci vt, .int .u64 vb, .slice ao k.len cap] 44)).heap[w.heap.size]? = some (.cells #[ci 4, ci op, ct mod, ct name, ci vt, .int .u64 vb, .slice ao k.len cap] 44 (0, 0))) := alloc_new _ _
  have f0 : Fr (fun _ => False) w (w.alloc (.cells #[ci 4, ci op, ct mod, ct name, ci vt, .int .u64 vb, .slice ao k.len cap] 44)) := Fr.alloc _ _ _
  unfold LookL at hL
  unfold gUp at *
  by_cases hf : fitsE cnS ⟨4, op, mod, name, vt, vb⟩ k.len = true
  · by_cases hn : rnS name = 0
    · by_cases h8 : k.len ≤ 8
      · by_cases h0 : errL rnS cnS k = 0
        · go_enter Tryz.func59, Tryz.ntmps59
          go_wp2_with fail
          go_at_call 74
          refine (kf _ _ hf).mono ?_
          rintro e w1 ⟨rfl, f1⟩
          obtain ⟨c0, c1, c2, c3, c4, c5, c6⟩ := ex_box (f1.heap hbx (fun f => f))
          have g1 := f0.same f1
          go_wp2_with fail
          go_at_call 57
          refine (must_yes _ (by first | rfl | (simp; omega) | simpa using hf) 1 _).mono ?_
          rintro e w2 ⟨rfl, rfl⟩
          go_wp2_with fail
          go_at_call 63
          refine (mustName_ok name hn ho.name _).mono ?_
          rintro e w2 ⟨rfl, rfl⟩
          go_wp2_with fail
          go_at_call 57
          refine (must_yes _ (by first | rfl | (simp; omega) | simpa using h8) 3 _).mono ?_
          rintro e w2 ⟨rfl, rfl⟩
          go_wp2_with fail
          go_at_call 75
          refine (hL ao cap _ hx (hk.keep g1)).mono ?_
          rw [h0, lk_0]
          rintro e w3 ⟨rfl, f3⟩
          go_wp2_with fail
          go_end0
          refine ⟨?_, g1.same f3⟩
          rw [show orE (errH rnS cnS _ k.len) (errL rnS cnS k) = 0 by simp only [errH, hf, if_true, nameE]; simp [orE, *]]
          rfl
        · go_enter Tryz.func59, Tryz.ntmps59
          go_wp2_with fail
          go_at_call 74
          refine (kf _ _ hf).mono ?_
          rintro e w1 ⟨rfl, f1⟩
          obtain ⟨c0, c1, c2, c3, c4, c5, c6⟩ := ex_box (f1.heap hbx (fun f => f))
          have g1 := f0.same f1
          go_wp2_with fail
          go_at_call 57
          refine (must_yes _ (by first | rfl | (simp; omega) | simpa using hf) 1 _).mono ?_
          rintro e w2 ⟨rfl, rfl⟩
          go_wp2_with fail
          go_at_call 63
          refine (mustName_ok name hn ho.name _).mono ?_
          rintro e w2 ⟨rfl, rfl⟩
          go_wp2_with fail
          go_at_call 57
          refine (must_yes _ (by first | rfl | (simp; omega) | simpa using h8) 3 _).mono ?_
          rintro e w2 ⟨rfl, rfl⟩
          go_wp2_with fail
          go_at_call 75
          refine (hL ao cap _ hx (hk.keep g1)).mono ?_
          rw [lk_ne h0]
          unfold gUp
          rintro e w3 ⟨rfl, f3⟩
          go_wp2_with fail
          exact ⟨rfl, (lk_is ⟨by simp only [errH, hf, if_true, nameE]; simp [orE, *], h0⟩).symm, g1.same f3⟩
      · go_enter Tryz.func59, Tryz.ntmps59
        go_wp2_with fail
        go_at_call 74
        refine (kf _ _ hf).mono ?_
        rintro e w1 ⟨rfl, f1⟩
        obtain ⟨c0, c1, c2, c3, c4, c5, c6⟩ := ex_box (f1.heap hbx (fun f => f))
        have g1 := f0.same f1
        go_wp2_with fail
        go_at_call 57
        refine (must_yes _ (by first | rfl | (simp; omega) | simpa using hf) 1 _).mono ?_
        rintro e w2 ⟨rfl, rfl⟩
        go_wp2_with fail
        go_at_call 63
        refine (mustName_ok name hn ho.name _).mono ?_
        rintro e w2 ⟨rfl, rfl⟩
        go_wp2_with fail
        go_at_call 57
        refine (must_not _ (by first | rfl | (simp; omega) | simpa using h8) 3 _).mono ?_
        unfold gUp
        rintro e w2 ⟨rfl, rfl⟩
        go_wp2_with fail
        exact ⟨rfl, (lk_is ⟨by simp only [errH, hf, if_true, nameE]; simp [orE, *], by decide⟩).symm, g1⟩
    · go_enter Tryz.func59, Tryz.ntmps59
      go_wp2_with fail
      go_at_call 74
      refine (kf _ _ hf).mono ?_
      rintro e w1 ⟨rfl, f1⟩
      obtain ⟨c0, c1, c2, c3, c4, c5, c6⟩ := ex_box (f1.heap hbx (fun f => f))
      have g1 := f0.same f1
      go_wp2_with fail
      go_at_call 57
      refine (must_yes _ (by first | rfl | (simp; omega) | simpa using hf) 1 _).mono ?_
      rintro e w2 ⟨rfl, rfl⟩
      go_wp2_with fail
      go_at_call 63
      refine (mustName_no name _ rfl hn ho.name _).mono ?_
      unfold gUp
      rintro e w2 ⟨rfl, rfl⟩
      go_wp2_with fail
      exact ⟨rfl, (lk_is ⟨by simp only [errH, hf, if_true, nameE]; simp [orE, *], hn⟩).symm, g1⟩
  · replace hf : fitsE cnS ⟨4, op, mod, name, vt, vb⟩ k.len = false := by simpa using hf
    go_enter Tryz.func59, Tryz.ntmps59
    go_wp2_with fail
    go_at_call 74
    refine (kf _ _ hf).mono ?_
    rintro e w1 ⟨rfl, f1⟩
    obtain ⟨c0, c1, c2, c3, c4, c5, c6⟩ := ex_box (f1.heap hbx (fun f => f))
    have g1 := f0.same f1
    go_wp2_with fail
    go_at_call 57
    refine (must_not _ (by first | rfl | (simp; omega) | simpa using hf) 1 _).mono ?_
    unfold gUp
    rintro e w2 ⟨rfl, rfl⟩
    go_wp2_with fail
    exact ⟨rfl, (lk_is ⟨by simp [errH, orE, hf], by decide⟩).symm, g1⟩
set_option maxRecDepth 20000 in
set_option maxHeartbeats 4000000 in
theorem lookX_3 (op vt vb : Int) (mod name : Bs) (k : Exs) (hL : LookL k) (ao : Option Addr) (cap : Nat) (w : World) (ho : OkE ⟨3, op, mod, name, vt, vb⟩) (hx : OkX k) (hk : ExL w ao cap k) :
    Calls Tryz.prog 59 #[exV ⟨3, op, mod, name, vt, vb⟩ (.slice ao k.len cap)] w fun e w' => e = lk (orE (errH rnS cnS ⟨3, op, mod, name, vt, vb⟩ k.len) (errL rnS cnS k)) ∧ Fr (fun _ => False) w w' := by
  have hmax : cap ≤ 9223372036854775807 := by have := hk.2.1; unfold maxLen at this; omega
  have kf := fun w r hr => fits_any ⟨3, op, mod, name, vt, vb⟩ k.len ho ao cap hk.1 hmax r hr w
  have hbx : Hidden ((w.alloc (.cells #[ci 3, ci op, ct mod, ct name, ci vt, .int .u64 vb, .slice ao k.len cap] 44)).heap[w.heap.size]? = some (.cells #[ci 3, ci op, ct mod, ct name, ci vt, .int .u64 vb, .slice ao k.len cap] 44 (0, 0))) := alloc_new _ _
  have f0 : Fr (fun _ => False) w (w.alloc (.cells #[ci 3, ci op, ct mod, ct name, ci vt, .int .u64 vb, .slice ao k.len cap] 44)) := Fr.alloc _ _ _
  unfold LookL at hL
  unfold gUp at *
  by_cases hf : fitsE cnS ⟨3, op, mod, name, vt, vb⟩ k.len = true
  · by_cases hm : rnS mod = 0
    · by_cases hn : rnS name = 0
      · by_cases h8 : k.len ≤ 8
        · by_cases h0 : errL rnS cnS k = 0
          · go_enter Tryz.func59, Tryz.ntmps59
            go_wp2_with fail
            go_at_call 74
            refine (kf _ _ hf).mono ?_
            rintro e w1 ⟨rfl, f1⟩
            obtain ⟨c0, c1, c2, c3, c4, c5, c6⟩ := ex_box (f1.heap hbx (fun f => f))
            have g1 := f0.same f1
            go_wp2_with fail
            go_at_call 57
            refine (must_yes _ (by first | rfl | (simp; omega) | simpa using hf) 1 _).mono ?_
            rintro e w2 ⟨rfl, rfl⟩
            go_wp2_with fail
            go_at_call 63
            refine (mustName_ok mod hm ho.mod _).mono ?_
            rintro e w2 ⟨rfl, rfl⟩
            go_wp2_with fail
            go_at_call 63
            refine (mustName_ok name hn ho.name _).mono ?_
            rintro e w2 ⟨rfl, rfl⟩
            go_wp2_with fail
            go_at_call 57
            refine (must_yes _ (by first | rfl | (simp; omega) | simpa using h8) 3 _).mono ?_
            rintro e w2 ⟨rfl, rfl⟩
            go_wp2_with fail
            go_at_call 75
            refine (hL ao cap _ hx (hk.keep g1)).mono ?_
            rw [h0, lk_0]
            rintro e w3 ⟨rfl, f3⟩
            go_wp2_with fail
            go_end0
            refine ⟨?_, g1.same f3⟩
            rw [show orE (errH rnS cnS _ k.len) (errL rnS cnS k) = 0 by simp only [errH, hf, if_true, nameE]; simp [orE, *]]
            rfl
          · go_enter Tryz.func59, Tryz.ntmps59
            go_wp2_with fail
            go_at_call 74
            refine (kf _ _ hf).mono ?_
            rintro e w1 ⟨rfl, f1⟩
            obtain ⟨c0, c1, c2, c3, c4, c5, c6⟩ := ex_box (f1.heap hbx (fun f => f))
            have g1 := f0.same f1
            go_wp2_with fail
            go_at_call 57
            refine (must_yes _ (by first | rfl | (simp; omega) | simpa using hf) 1 _).mono ?_
            rintro e w2 ⟨rfl, rfl⟩
            go_wp2_with fail
            go_at_call 63
            refine (mustName_ok mod hm ho.mod _).mono ?_
            rintro e w2 ⟨rfl, rfl⟩
            go_wp2_with fail
            go_at_call 63
            refine (mustName_ok name hn ho.name _).mono ?_
            rintro e w2 ⟨rfl, rfl⟩
            go_wp2_with fail
            go_at_call 57
            refine (must_yes _ (by first | rfl | (simp; omega) | simpa using h8) 3 _).mono ?_
            rintro e w2 ⟨rfl, rfl⟩
            go_wp2_with fail
            go_at_call 75
            refine (hL ao cap _ hx (hk.keep g1)).mono ?_
            rw [lk_ne h0]
            unfold gUp
            rintro e w3 ⟨rfl, f3⟩
            go_wp2_with fail
            exact ⟨rfl, (lk_is ⟨by simp only [errH, hf, if_true, nameE]; simp [orE, *], h0⟩).symm, g1.same f3⟩
        · go_enter Tryz.func59, Tryz.ntmps59
          go_wp2_with fail
          go_at_call 74
          refine (kf _ _ hf).mono ?_
          rintro e w1 ⟨rfl, f1⟩
          obtain ⟨c0, c1, c2, c3, c4, c5, c6⟩ := ex_box (f1.heap hbx (fun f => f))
          have g1 := f0.same f1
          go_wp2_with fail
          go_at_call 57
          refine (must_yes _ (by first | rfl | (simp; omega) | simpa using hf) 1 _).mono ?_
          rintro e w2 ⟨rfl, rfl⟩
          go_wp2_with fail
          go_at_call 63
          refine (mustName_ok mod hm ho.mod _).mono ?_
          rintro e w2 ⟨rfl, rfl⟩
          go_wp2_with fail
          go_at_call 63
          refine (mustName_ok name hn ho.name _).mono ?_
          rintro e w2 ⟨rfl, rfl⟩
          go_wp2_with fail
          go_at_call 57
          refine (must_not _ (by first | rfl | (simp; omega) | simpa using h8) 3 _).mono ?_
          unfold gUp
          rintro e w2 ⟨rfl, rfl⟩
          go_wp2_with fail
          exact ⟨rfl, (lk_is ⟨by simp only [errH, hf, if_true, nameE]; simp [orE, *], by decide⟩).symm, g1⟩
      · go_enter Tryz.func59, Tryz.ntmps59
        go_wp2_with fail
        go_at_call 74
        refine (kf _ _ hf).mono ?_
        rintro e w1 ⟨rfl, f1⟩
        obtain ⟨c0, c1, c2, c3, c4, c5, c6⟩ := ex_box (f1.heap hbx (fun f => f))
        have g1 := f0.same f1
        go_wp2_with fail
        go_at_call 57
        refine (must_yes _ (by first | rfl | (simp; omega) | simpa using hf) 1 _).mono ?_
        rintro e w2 ⟨rfl, rfl⟩
        go_wp2_with fail
        go_at_call 63
        refine (mustName_ok mod hm ho.mod _).mono ?_
        rintro e w2 ⟨rfl, rfl⟩
        go_wp2_with fail
        go_at_call 63
        refine (mustName_no name _ rfl hn ho.name _).mono ?_
        unfold gUp
        rintro e w2 ⟨rfl, rfl⟩
        go_wp2_with fail
        exact ⟨rfl, (lk_is ⟨by simp only [errH, hf, if_true, nameE]; simp [orE, *], hn⟩).symm, g1⟩
    · go_enter Tryz.func59, Tryz.ntmps59
      go_wp2_with fail
      go_at_call 74
      refine (kf _ _ hf).mono ?_
      rintro e w1 ⟨rfl, f1⟩
      obtain ⟨c0, c1, c2, c3, c4, c5, c6⟩ := ex_box (f1.heap hbx (fun f => f))
      have g1 := f0.same f1
      go_wp2_with fail
      go_at_call 57
      refine (must_yes _ (by first | rfl | (simp; omega) | simpa using hf) 1 _).mono ?_
      rintro e w2 ⟨rfl, rfl⟩
      go_wp2_with fail
      go_at_call 63
      refine (mustName_no mod _ rfl hm ho.mod _).mono ?_
      unfold gUp
      rintro e w2 ⟨rfl, rfl⟩
      go_wp2_with fail
      exact ⟨rfl, (lk_is ⟨by simp only [errH, hf, if_true, nameE]; simp [orE, *], hm⟩).symm, g1⟩
  · replace hf : fitsE cnS ⟨3, op, mod, name, vt, vb⟩ k.len = false := by simpa using hf
    go_enter Tryz.func59, Tryz.ntmps59
    go_wp2_with fail
    go_at_call 74
    refine (kf _ _ hf).mono ?_
    rintro e w1 ⟨rfl, f1⟩
    obtain ⟨c0, c1, c2, c3, c4, c5, c6⟩ := ex_box (f1.heap hbx (fun f => f))
    have g1 := f0.same f1
    go_wp2_with fail
    go_at_call 57
    refine (must_not _ (by first | rfl | (simp; omega) | simpa using hf) 1 _).mono ?_
    unfold gUp
    rintro e w2 ⟨rfl, rfl⟩
    go_wp2_with fail
    exact ⟨rfl, (lk_is ⟨by simp [errH, orE, hf], by decide⟩).symm, g1⟩
set_option maxRecDepth 20000 in
set_option maxHeartbeats 4000000 in
theorem lookX_5 (op vt vb : Int) (mod name : Bs) (k : Exs) (hL : LookL k) (ao : Option Addr) (cap : Nat) (w : World) (ho : OkE ⟨5, op, mod, name, vt, vb⟩) (hx : OkX k) (hk : ExL w ao cap k) :
    Calls Tryz.prog 59 #[exV ⟨5, op, mod, name, vt, vb⟩ (.slice ao k.len cap)] w fun e w' => e = lk (orE (errH rnS cnS ⟨5, op, mod, name, vt, vb⟩ k.len) (errL rnS cnS k)) ∧ Fr (fun _ => False) w w' := by
  have hmax : cap ≤ 9223372036854775807 := by have := hk.2.1; unfold maxLen at this; omega
  have kf := fun w r hr => fits_any ⟨5, op, mod, name, vt, vb⟩ k.len ho ao cap hk.1 hmax r hr w
  have hbx : Hidden ((w.alloc (.cells #[ci 5, ci op, ct mod, ct name, ci vt, .int .u64 vb, .slice ao k.len cap] 44)).heap[w.heap.size]? = some (.cells #[ci 5, ci op, ct mod, ct name, ci vt, .int .u64 vb, .slice ao k.len cap] 44 (0, 0))) := alloc_new _ _
  have f0 : Fr (fun _ => False) w (w.alloc (.cells #[ci 5, ci op, ct mod, ct name, ci vt, .int .u64 vb, .slice ao k.len cap] 44)) := Fr.alloc _ _ _
  unfold LookL at hL
  unfold gUp at *
  by_cases hf : fitsE cnS ⟨5, op, mod, name, vt, vb⟩ k.len = true
  · by_cases hm : rnS mod = 0
    · by_cases hn : rnS name = 0
      · by_cases h8 : k.len ≤ 8
        · by_cases h0 : errL rnS cnS k = 0
          · go_enter Tryz.func59, Tryz.ntmps59
            go_wp2_with fail
            go_at_call 74
            refine (kf _ _ hf).mono ?_
            rintro e w1 ⟨rfl, f1⟩
            obtain ⟨c0, c1, c2, c3, c4, c5, c6⟩ := ex_box (f1.heap hbx (fun f => f))
            have g1 := f0.same f1
            go_wp2_with fail
            go_at_call 57
            refine (must_yes _ (by first | rfl | (simp; omega) | simpa using hf) 1 _).mono ?_
            rintro e w2 ⟨rfl, rfl⟩
            go_wp2_with fail
            go_at_call 63
            refine (mustName_ok mod hm ho.mod _).mono ?_
            rintro e w2 ⟨rfl, rfl⟩
            go_wp2_with fail
            go_at_call 63
            refine (mustName_ok name hn ho.name _).mono ?_
            rintro e w2 ⟨rfl, rfl⟩
            go_wp2_with fail
            go_at_call 57
            refine (must_yes _ (by first | rfl | (simp; omega) | simpa using h8) 3 _).mono ?_
            rintro e w2 ⟨rfl, rfl⟩
            go_wp2_with fail
            go_at_call 75
            refine (hL ao cap _ hx (hk.keep g1)).mono ?_
            rw [h0, lk_0]
            rintro e w3 ⟨rfl, f3⟩
            go_wp2_with fail
            go_end0
            refine ⟨?_, g1.same f3⟩
            rw [show orE (errH rnS cnS _ k.len) (errL rnS cnS k) = 0 by simp only [errH, hf, if_true, nameE]; simp [orE, *]]
            rfl
          · go_enter Tryz.func59, Tryz.ntmps59
            go_wp2_with fail
            go_at_call 74
            refine (kf _ _ hf).mono ?_
            rintro e w1 ⟨rfl, f1⟩
            obtain ⟨c0, c1, c2, c3, c4, c5, c6⟩ := ex_box (f1.heap hbx (fun f => f))
            have g1 := f0.same f1
            go_wp2_with fail
            go_at_call 57
            refine (must_yes _ (by first | rfl | (simp; omega) | simpa using hf) 1 _).mono ?_
            rintro e w2 ⟨rfl, rfl⟩
            go_wp2_with fail
            go_at_call 63
            refine (mustName_ok mod hm ho.mod _).mono ?_
            rintro e w2 ⟨rfl, rfl⟩
            go_wp2_with fail
            go_at_call 63
            refine (mustName_ok name hn ho.name _).mono ?_
            rintro e w2 ⟨rfl, rfl⟩
            go_wp2_with fail
            go_at_call 57
            refine (must_yes _ (by first | rfl | (simp; omega) | simpa using h8) 3 _).mono ?_
            rintro e w2 ⟨rfl, rfl⟩
            go_wp2_with fail
            go_at_call 75
            refine (hL ao cap _ hx (hk.keep g1)).mono ?_
            rw [lk_ne h0]
            unfold gUp
            rintro e w3 ⟨rfl, f3⟩
            go_wp2_with fail
            exact ⟨rfl, (lk_is ⟨by simp only [errH, hf, if_true, nameE]; simp [orE, *], h0⟩).symm, g1.same f3⟩
        · go_enter Tryz.func59, Tryz.ntmps59
          go_wp2_with fail
          go_at_call 74
          refine (kf _ _ hf).mono ?_
          rintro e w1 ⟨rfl, f1⟩
          obtain ⟨c0, c1, c2, c3, c4, c5, c6⟩ := ex_box (f1.heap hbx (fun f => f))
          have g1 := f0.same f1
          go_wp2_with fail
          go_at_call 57
          refine (must_yes _ (by first | rfl | (simp; omega) | simpa using hf) 1 _).mono ?_
          rintro e w2 ⟨rfl, rfl⟩
          go_wp2_with fail
          go_at_call 63
          refine (mustName_ok mod hm ho.mod _).mono ?_
          rintro e w2 ⟨rfl, rfl⟩
          go_wp2_with fail
          go_at_call 63
          refine (mustName_ok name hn ho.name _).mono ?_
          rintro e w2 ⟨rfl, rfl⟩
          go_wp2_with fail
          go_at_call 57
          refine (must_not _ (by first | rfl | (simp; omega) | simpa using h8) 3 _).mono ?_
          unfold gUp
          rintro e w2 ⟨rfl, rfl⟩
          go_wp2_with fail
          exact ⟨rfl, (lk_is ⟨by simp only [errH, hf, if_true, nameE]; simp [orE, *], by decide⟩).symm, g1⟩
      · go_enter Tryz.func59, Tryz.ntmps59
        go_wp2_with fail
        go_at_call 74
        refine (kf _ _ hf).mono ?_
        rintro e w1 ⟨rfl, f1⟩
        obtain ⟨c0, c1, c2, c3, c4, c5, c6⟩ := ex_box (f1.heap hbx (fun f => f))
        have g1 := f0.same f1
        go_wp2_with fail
        go_at_call 57
        refine (must_yes _ (by first | rfl | (simp; omega) | simpa using hf) 1 _).mono ?_
        rintro e w2 ⟨rfl, rfl⟩
        go_wp2_with fail
        go_at_call 63
        refine (mustName_ok mod hm ho.mod _).mono ?_
        rintro e w2 ⟨rfl, rfl⟩
        go_wp2_with fail
        go_at_call 63
        refine (mustName_no name _ rfl hn ho.name _).mono ?_
        unfold gUp
        rintro e w2 ⟨rfl, rfl⟩
        go_wp2_with fail
        exact ⟨rfl, (lk_is ⟨by simp only [errH, hf, if_true, nameE]; simp [orE, *], hn⟩).symm, g1⟩
    · go_enter Tryz.func59, Tryz.ntmps59
      go_wp2_with fail
      go_at_call 74
      refine (kf _ _ hf).mono ?_
      rintro e w1 ⟨rfl, f1⟩
      obtain ⟨c0, c1, c2, c3, c4, c5, c6⟩ := ex_box (f1.heap hbx (fun f => f))
      have g1 := f0.same f1
      go_wp2_with fail
      go_at_call 57
      refine (must_yes _ (by first | rfl | (simp; omega) | simpa using hf) 1 _).mono ?_
      rintro e w2 ⟨rfl, rfl⟩
      go_wp2_with fail
      go_at_call 63
      refine (mustName_no mod _ rfl hm ho.mod _).mono ?_
      unfold gUp
      rintro e w2 ⟨rfl, rfl⟩
      go_wp2_with fail
      exact ⟨rfl, (lk_is ⟨by simp only [errH, hf, if_true, nameE]; simp [orE, *], hm⟩).symm, g1⟩
  · replace hf : fitsE cnS ⟨5, op, mod, name, vt, vb⟩ k.len = false := by simpa using hf
    go_enter Tryz.func59, Tryz.ntmps59
    go_wp2_with fail
    go_at_call 74
    refine (kf _ _ hf).mono ?_
    rintro e w1 ⟨rfl, f1⟩
    obtain ⟨c0, c1, c2, c3, c4, c5, c6⟩ := ex_box (f1.heap hbx (fun f => f))
    have g1 := f0.same f1
    go_wp2_with fail
    go_at_call 57
    refine (must_not _ (by first | rfl | (simp; omega) | simpa using hf) 1 _).mono ?_
    unfold gUp
    rintro e w2 ⟨rfl, rfl⟩
    go_wp2_with fail
    exact ⟨rfl, (lk_is ⟨by simp [errH, orE, hf], by decide⟩).symm, g1⟩
set_option maxRecDepth 20000 in
set_option maxHeartbeats 4000000 in
theorem lookX_no (kind op vt vb : Int) (mod name : Bs) (k : Exs) (hL : LookL k) (ao : Option Addr) (cap : Nat) (w : World) (ho : OkE ⟨kind, op, mod, name, vt, vb⟩) (hx : OkX k) (hk : ExL w ao cap k) (n2 : kind ≠ 2) (n3 : kind ≠ 3) (n4 : kind ≠ 4) (n5 : kind ≠ 5) :
    Calls Tryz.prog 59 #[exV ⟨kind, op, mod, name, vt, vb⟩ (.slice ao k.len cap)] w fun e w' => e = lk (orE (errH rnS cnS ⟨kind, op, mod, name, vt, vb⟩ k.len) (errL rnS cnS k)) ∧ Fr (fun _ => False) w w' := by
  have hmax : cap ≤ 9223372036854775807 := by have := hk.2.1; unfold maxLen at this; omega
  have kf := fun w r hr => fits_any ⟨kind, op, mod, name, vt, vb⟩ k.len ho ao cap hk.1 hmax r hr w
  have hbx : Hidden ((w.alloc (.cells #[ci kind, ci op, ct mod, ct name, ci vt, .int .u64 vb, .slice ao k.len cap] 44)).heap[w.heap.size]? = some (.cells #[ci kind, ci op, ct mod, ct name, ci vt, .int .u64 vb, .slice ao k.len cap] 44 (0, 0))) := alloc_new _ _
  have f0 : Fr (fun _ => False) w (w.alloc (.cells #[ci kind, ci op, ct mod, ct name, ci vt, .int .u64 vb, .slice ao k.len cap] 44)) := Fr.alloc _ _ _
  unfold LookL at hL
  unfold gUp at *
  have m2 : (kind == 2) = false := by simp [n2]
  have m3 : (kind == 3) = false := by simp [n3]
  have m4 : (kind == 4) = false := by simp [n4]
  have m5 : (kind == 5) = false := by simp [n5]
  by_cases hf : fitsE cnS ⟨kind, op, mod, name, vt, vb⟩ k.len = true
  · by_cases h8 : k.len ≤ 8
    · by_cases h0 : errL rnS cnS k = 0
      · go_enter Tryz.func59, Tryz.ntmps59
        go_wp2_with fail
        go_at_call 74
        refine (kf _ _ hf).mono ?_
        rintro e w1 ⟨rfl, f1⟩
        obtain ⟨c0, c1, c2, c3, c4, c5, c6⟩ := ex_box (f1.heap hbx (fun f => f))
        have g1 := f0.same f1
        go_wp2_with fail
        go_at_call 57
        refine (must_yes _ (by first | rfl | (simp; omega) | simpa using hf) 1 _).mono ?_
        rintro e w2 ⟨rfl, rfl⟩
        go_wp2_with fail
        go_at_call 57
        refine (must_yes _ (by first | rfl | (simp; omega) | simpa using h8) 3 _).mono ?_
        rintro e w2 ⟨rfl, rfl⟩
        go_wp2_with fail
        go_at_call 75
        refine (hL ao cap _ hx (hk.keep g1)).mono ?_
        rw [h0, lk_0]
        rintro e w3 ⟨rfl, f3⟩
        go_wp2_with fail
        go_end0
        refine ⟨?_, g1.same f3⟩
        rw [show orE (errH rnS cnS _ k.len) (errL rnS cnS k) = 0 by simp only [errH, hf, if_true, nameE]; simp [orE, *]]
        rfl
      · go_enter Tryz.func59, Tryz.ntmps59
        go_wp2_with fail
        go_at_call 74
        refine (kf _ _ hf).mono ?_
        rintro e w1 ⟨rfl, f1⟩
        obtain ⟨c0, c1, c2, c3, c4, c5, c6⟩ := ex_box (f1.heap hbx (fun f => f))
        have g1 := f0.same f1
        go_wp2_with fail
        go_at_call 57
        refine (must_yes _ (by first | rfl | (simp; omega) | simpa using hf) 1 _).mono ?_
        rintro e w2 ⟨rfl, rfl⟩
        go_wp2_with fail
        go_at_call 57
        refine (must_yes _ (by first | rfl | (simp; omega) | simpa using h8) 3 _).mono ?_
        rintro e w2 ⟨rfl, rfl⟩
        go_wp2_with fail
        go_at_call 75
        refine (hL ao cap _ hx (hk.keep g1)).mono ?_
        rw [lk_ne h0]
        unfold gUp
        rintro e w3 ⟨rfl, f3⟩
        go_wp2_with fail
        exact ⟨rfl, (lk_is ⟨by simp only [errH, hf, if_true, nameE]; simp [orE, *], h0⟩).symm, g1.same f3⟩
    · go_enter Tryz.func59, Tryz.ntmps59
      go_wp2_with fail
      go_at_call 74
      refine (kf _ _ hf).mono ?_
      rintro e w1 ⟨rfl, f1⟩
      obtain ⟨c0, c1, c2, c3, c4, c5, c6⟩ := ex_box (f1.heap hbx (fun f => f))
      have g1 := f0.same f1
      go_wp2_with fail
      go_at_call 57
      refine (must_yes _ (by first | rfl | (simp; omega) | simpa using hf) 1 _).mono ?_
      rintro e w2 ⟨rfl, rfl⟩
      go_wp2_with fail
      go_at_call 57
      refine (must_not _ (by first | rfl | (simp; omega) | simpa using h8) 3 _).mono ?_
      unfold gUp
      rintro e w2 ⟨rfl, rfl⟩
      go_wp2_with fail
      exact ⟨rfl, (lk_is ⟨by simp only [errH, hf, if_true, nameE]; simp [orE, *], by decide⟩).symm, g1⟩
  · replace hf : fitsE cnS ⟨kind, op, mod, name, vt, vb⟩ k.len = false := by simpa using hf
    go_enter Tryz.func59, Tryz.ntmps59
    go_wp2_with fail
    go_at_call 74
    refine (kf _ _ hf).mono ?_
    rintro e w1 ⟨rfl, f1⟩
    obtain ⟨c0, c1, c2, c3, c4, c5, c6⟩ := ex_box (f1.heap hbx (fun f => f))
    have g1 := f0.same f1
    go_wp2_with fail
    go_at_call 57
    refine (must_not _ (by first | rfl | (simp; omega) | simpa using hf) 1 _).mono ?_
    unfold gUp
    rintro e w2 ⟨rfl, rfl⟩
    go_wp2_with fail
    exact ⟨rfl, (lk_is ⟨by simp [errH, orE, hf], by decide⟩).symm, g1⟩
theorem lookX_step (h : EH) (k : Exs) (hL : LookL k) : LookX h k := by
  intro ao cap w ho hx hk
  obtain ⟨kind, op, mod, name, vt, vb⟩ := h
  by_cases n2 : kind = 2
  · subst n2; exact lookX_2 op vt vb mod name k hL ao cap w ho hx hk
  by_cases n3 : kind = 3
  · subst n3; exact lookX_3 op vt vb mod name k hL ao cap w ho hx hk
  by_cases n4 : kind = 4
  · subst n4; exact lookX_4 op vt vb mod name k hL ao cap w ho hx hk
  by_cases n5 : kind = 5
  · subst n5; exact lookX_5 op vt vb mod name k hL ao cap w ho hx hk
  exact lookX_no kind op vt vb mod name k hL ao cap w ho hx hk n2 n3 n4 n5
set_option maxRecDepth 20000 in
set_option maxHeartbeats 4000000 in
theorem lookL_step (k : Exs) (ih : ∀ h' k', k'.size < k.size → LookX h' k') : LookL k := by
  intro ao cap w hx hk
  have hrest := hk.rest
  obtain ⟨hcap, hmax, _⟩ := hk
  have hlen : k.len ≤ 9223372036854775807 := by unfold maxLen at hmax; omega
  go_enter Tryz.func75, Tryz.ntmps75
  go_wp2_with fail
  go_loopg [6] k.len (fun g iv wr => ∃ (i : Nat) (r : Exs), iv = ci (i : Int) ∧ i + r.len = k.len ∧ r.size ≤ k.size ∧ OkX r ∧ ExR w ao i r ∧ errL rnS cnS k = errL rnS cnS r ∧ g = r.len ∧ Fr (fun _ => False) w wr)
  case atStart => exact ⟨0, k, rfl, by omega, Nat.le_refl _, hx, hrest, rfl, rfl, Fr.refl _ _⟩
  case round =>
    obtain ⟨i, r, rfl, hlen2, hsize, hok, hrow, hdk, hgk, hfr⟩ := hrel
    have hgkH : Hidden (gk = r.len) := hgk
    have hdkH : Hidden (errL rnS cnS k = errL rnS cnS r) := hdk
    have hlenH : Hidden (i + r.len = k.len) := hlen2
    clear hgk hdk hlen2 hrest
    cases r with
    | nil =>
      have hi : i = k.len := hlenH
      subst hi
      go_wp2_with fail
      go_end0
      refine ⟨?_, hfr⟩
      rw [show errL rnS cnS k = 0 from hdkH]
      rfl
    | cons h' k' r' =>
      have hil : i < k.len := by have : i + (r'.len + 1) = k.len := hlenH; omega
      obtain ⟨b, off, ao', cap', rfl, hL, hrow2, d0, d1, d2, d3, d4, d5, d6⟩ := hrow.next
      have d0 := hfr.cellN d0
      have d1 := hfr.cellN d1
      have d2 := hfr.cellN d2
      have d3 := hfr.cellN d3
      have d4 := hfr.cellN d4
      have d5 := hfr.cellN d5
      have d6 := hfr.cellN d6
      simp only [Exs.size] at hsize
      have ke := ih h' k' (by omega)
      unfold LookX at ke
      have f2 := hfr.same (Fr.alloc (fun _ => False) wr (.cells #[ci h'.kind, ci h'.op, ct h'.mod, ct h'.name, ci h'.vt, .int .u64 h'.vb, .slice ao' k'.len cap'] 44))
      have kc := ke ao' cap' _ hok.1 hok.2.1 (hL.keep f2)
      clear ke
      have hdk2 : Hidden (errL rnS cnS k = orE (orE (errH rnS cnS h' k'.len) (errL rnS cnS k')) (errL rnS cnS r')) := hdkH
      by_cases h0 : orE (errH rnS cnS h' k'.len) (errL rnS cnS k') = 0
      · rw [h0, lk_0] at kc
        rw [h0] at hdk2
        clear h0
        go_wp2_with fail
        go_at_call 59
        refine kc.mono ?_
        rintro e W3 ⟨rfl, f3⟩
        go_wp2_with fail
        go_roundg r'.len
        case measure =>
          have : gk = r'.len + 1 := hgkH
          omega
        case rel =>
          refine ⟨i + 1, r', by go_num, ?_, by omega, hok.2.2, hrow2, hdk2, rfl, f2.same f3⟩
          have : i + (r'.len + 1) = k.len := hlenH
          omega
      · rw [lk_ne h0] at kc
        have hdk3 : errL rnS cnS k = orE (errH rnS cnS h' k'.len) (errL rnS cnS k') := by rw [show errL rnS cnS k = _ from hdk2, orE_ne _ h0]
        unfold gUp at kc
        go_wp2_with fail
        go_at_call 59
        refine kc.mono ?_
        rintro e W3 ⟨rfl, f3⟩
        go_wp2_with fail
        exact ⟨rfl, (lk_is ⟨hdk3, h0⟩).symm, f2.same f3⟩
theorem look_any : ∀ (k : Exs), LookL k := by
  have : ∀ (n : Nat) (k : Exs), k.size < n → LookL k := by
    intro n
    induction n with
    | zero => intro k hk; omega
    | succ n ih => intro k hk; exact lookL_step k (fun h' k' hk' => lookX_step h' k' (ih k' (by omega)))
  exact fun k => this (k.size + 1) k (by omega)
theorem lookX_any (h : EH) (k : Exs) : LookX h k := lookX_step h k (look_any k)
end Go.Proofs.YtfkccanjdlajlabGreatDoor
