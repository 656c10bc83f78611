/- The program's look at blocks. -/
import Derived.Test.YtfkccanjdlajlabGreatDoorTrL3
namespace Go.Proofs.YtfkccanjdlajlabGreatDoor
open Go.RowKit Te
set_option linter.unusedSimpArgs false
set_option linter.unusedVariables false

def LookB (k : Sts) : Prop := ∀ (ao : Option Addr) (cap : Nat) (w : World), OkS k → StL w ao cap k →
  Calls Tryz.prog 81 #[.slice ao k.len cap] w fun e w' => e = lk (errS rnS cnS k) ∧ Fr (fun _ => False) w w'
/-- What is wrong in a statement. -/
def errSt (h : SH) (e : Exs) (b l : Sts) : Int := orE (errSH rnS h e b.len l.len) (orE (errL rnS cnS e) (orE (errS rnS cnS b) (errS rnS cnS l)))
theorem errS_cons (h : SH) (e : Exs) (b l r : Sts) : errS rnS cnS (.cons h e b l r) = orE (errSt h e b l) (errS rnS cnS r) := rfl
set_option maxRecDepth 20000 in
set_option maxHeartbeats 4000000 in
theorem lookS_1 (name : Bs) (e : Exs) (b l : Sts) (kb : LookB b) (kl : LookB l) (ao1 ao2 ao3 : Option Addr) (cap1 cap2 cap3 : Nat) (w : World) (on : OkN name) (oe : OkX e) (ob : OkS b) (ol : OkS l) (he : ExL w ao1 cap1 e) (hb : StL w ao2 cap2 b) (hl : StL w ao3 cap3 l) :
    Calls Tryz.prog 106 #[stV ⟨1, name⟩ (.slice ao1 e.len cap1) (.slice ao2 b.len cap2) (.slice ao3 l.len cap3)] w fun ee w' => ee = lk (errSt ⟨1, name⟩ e b l) ∧ Fr (fun _ => False) w w' := by
  have m2 : cap2 ≤ 9223372036854775807 := by have := hb.2.1; unfold maxLen at this; omega
  have m3 : cap3 ≤ 9223372036854775807 := by have := hl.2.1; unfold maxLen at this; omega
  have hbx : Hidden ((w.alloc (.cells #[ci 1, ct name, .slice ao1 e.len cap1, .slice ao2 b.len cap2, .slice ao3 l.len cap3] 78)).heap[w.heap.size]? = some (.cells #[ci 1, ct name, .slice ao1 e.len cap1, .slice ao2 b.len cap2, .slice ao3 l.len cap3] 78 (0, 0))) := alloc_new _ _
  have f0 : Fr (fun _ => False) w (w.alloc (.cells #[ci 1, ct name, .slice ao1 e.len cap1, .slice ao2 b.len cap2, .slice ao3 l.len cap3] 78)) := Fr.alloc _ _ _
  have kf := fun r hr => sfits_any ⟨1, name⟩ e b.len l.len ao1 ao2 ao3 cap1 cap2 cap3 _ (he.keep f0) hb.1 m2 hl.1 m3 r hr
  have kx := look_any e
  unfold LookL at kx
  unfold LookB at kb kl
  unfold errSt
  by_cases hf : fitsS ⟨1, name⟩ e b.len l.len = true
  · by_cases hn : rnS name = 0
    · by_cases h3 : errL rnS cnS e = 0
      · by_cases h4 : errS rnS cnS b = 0
        · by_cases h5 : errS rnS cnS l = 0
          · go_enter Tryz.func106, Tryz.ntmps106
            go_wp2_with fail
            go_at_call 136
            refine (kf _ hf).mono ?_
            rintro ee w1 ⟨rfl, f1⟩
            have h1 := f1.heap hbx (fun f => f)
            obtain ⟨c0, c1, c2, c3, c4⟩ := st_box h1
            have g1 := f0.same f1
            go_wp2_with fail
            go_at_call 57
            refine (must_yes _ (by first | rfl | simpa using hf) 1 _).mono ?_
            rintro ee w2 ⟨rfl, rfl⟩
            go_wp2_with fail
            go_at_call 63
            refine (mustName_ok name hn on _).mono ?_
            rintro ee w2 ⟨rfl, rfl⟩
            go_wp2_with fail
            go_at_call 75
            refine (kx ao1 cap1 _ oe (he.keep g1)).mono ?_
            rw [h3, lk_0]
            rintro ee w3 ⟨rfl, f3⟩
            have h2 := f3.heap h1 (fun f => f)
            obtain ⟨c0, c1, c2, c3, c4⟩ := st_box h2
            have g3 := g1.same f3
            go_wp2_with fail
            go_at_call 81
            refine (kb ao2 cap2 _ ob (hb.keep g3)).mono ?_
            rw [h4, lk_0]
            rintro ee w4 ⟨rfl, f4⟩
            obtain ⟨c0, c1, c2, c3, c4⟩ := st_box (f4.heap h2 (fun f => f))
            have g4 := g3.same f4
            go_wp2_with fail
            go_at_call 81
            refine (kl ao3 cap3 _ ol (hl.keep g4)).mono ?_
            rw [h5, lk_0]
            rintro ee w5 ⟨rfl, f5⟩
            go_wp2_with fail
            go_end0
            refine ⟨?_, g4.same f5⟩
            rw [show orE _ _ = 0 from (by simp only [errSH, hf, if_true, nameS]; simp [orE, *])]
            rfl
          · go_enter Tryz.func106, Tryz.ntmps106
            go_wp2_with fail
            go_at_call 136
            refine (kf _ hf).mono ?_
            rintro ee w1 ⟨rfl, f1⟩
            have h1 := f1.heap hbx (fun f => f)
            obtain ⟨c0, c1, c2, c3, c4⟩ := st_box h1
            have g1 := f0.same f1
            go_wp2_with fail
            go_at_call 57
            refine (must_yes _ (by first | rfl | simpa using hf) 1 _).mono ?_
            rintro ee w2 ⟨rfl, rfl⟩
            go_wp2_with fail
            go_at_call 63
            refine (mustName_ok name hn on _).mono ?_
            rintro ee w2 ⟨rfl, rfl⟩
            go_wp2_with fail
            go_at_call 75
            refine (kx ao1 cap1 _ oe (he.keep g1)).mono ?_
            rw [h3, lk_0]
            rintro ee w3 ⟨rfl, f3⟩
            have h2 := f3.heap h1 (fun f => f)
            obtain ⟨c0, c1, c2, c3, c4⟩ := st_box h2
            have g3 := g1.same f3
            go_wp2_with fail
            go_at_call 81
            refine (kb ao2 cap2 _ ob (hb.keep g3)).mono ?_
            rw [h4, lk_0]
            rintro ee w4 ⟨rfl, f4⟩
            obtain ⟨c0, c1, c2, c3, c4⟩ := st_box (f4.heap h2 (fun f => f))
            have g4 := g3.same f4
            go_wp2_with fail
            go_at_call 81
            refine (kl ao3 cap3 _ ol (hl.keep g4)).mono ?_
            rw [lk_ne h5]
            unfold gUp
            rintro ee w5 ⟨rfl, f5⟩
            go_wp2_with fail
            exact ⟨rfl, (lk_is ⟨by simp only [errSH, hf, if_true, nameS]; simp [orE, *], h5⟩).symm, g4.same f5⟩
        · go_enter Tryz.func106, Tryz.ntmps106
          go_wp2_with fail
          go_at_call 136
          refine (kf _ hf).mono ?_
          rintro ee w1 ⟨rfl, f1⟩
          have h1 := f1.heap hbx (fun f => f)
          obtain ⟨c0, c1, c2, c3, c4⟩ := st_box h1
          have g1 := f0.same f1
          go_wp2_with fail
          go_at_call 57
          refine (must_yes _ (by first | rfl | simpa using hf) 1 _).mono ?_
          rintro ee w2 ⟨rfl, rfl⟩
          go_wp2_with fail
          go_at_call 63
          refine (mustName_ok name hn on _).mono ?_
          rintro ee w2 ⟨rfl, rfl⟩
          go_wp2_with fail
          go_at_call 75
          refine (kx ao1 cap1 _ oe (he.keep g1)).mono ?_
          rw [h3, lk_0]
          rintro ee w3 ⟨rfl, f3⟩
          have h2 := f3.heap h1 (fun f => f)
          obtain ⟨c0, c1, c2, c3, c4⟩ := st_box h2
          have g3 := g1.same f3
          go_wp2_with fail
          go_at_call 81
          refine (kb ao2 cap2 _ ob (hb.keep g3)).mono ?_
          rw [lk_ne h4]
          unfold gUp
          rintro ee w4 ⟨rfl, f4⟩
          go_wp2_with fail
          exact ⟨rfl, (lk_is ⟨by simp only [errSH, hf, if_true, nameS]; simp [orE, *], h4⟩).symm, g3.same f4⟩
      · go_enter Tryz.func106, Tryz.ntmps106
        go_wp2_with fail
        go_at_call 136
        refine (kf _ hf).mono ?_
        rintro ee w1 ⟨rfl, f1⟩
        have h1 := f1.heap hbx (fun f => f)
        obtain ⟨c0, c1, c2, c3, c4⟩ := st_box h1
        have g1 := f0.same f1
        go_wp2_with fail
        go_at_call 57
        refine (must_yes _ (by first | rfl | simpa using hf) 1 _).mono ?_
        rintro ee w2 ⟨rfl, rfl⟩
        go_wp2_with fail
        go_at_call 63
        refine (mustName_ok name hn on _).mono ?_
        rintro ee w2 ⟨rfl, rfl⟩
        go_wp2_with fail
        go_at_call 75
        refine (kx ao1 cap1 _ oe (he.keep g1)).mono ?_
        rw [lk_ne h3]
        unfold gUp
        rintro ee w3 ⟨rfl, f3⟩
        go_wp2_with fail
        exact ⟨rfl, (lk_is ⟨by simp only [errSH, hf, if_true, nameS]; simp [orE, *], h3⟩).symm, g1.same f3⟩
    · go_enter Tryz.func106, Tryz.ntmps106
      go_wp2_with fail
      go_at_call 136
      refine (kf _ hf).mono ?_
      rintro ee w1 ⟨rfl, f1⟩
      have h1 := f1.heap hbx (fun f => f)
      obtain ⟨c0, c1, c2, c3, c4⟩ := st_box h1
      have g1 := f0.same f1
      go_wp2_with fail
      go_at_call 57
      refine (must_yes _ (by first | rfl | simpa using hf) 1 _).mono ?_
      rintro ee w2 ⟨rfl, rfl⟩
      go_wp2_with fail
      go_at_call 63
      refine (mustName_no name _ rfl hn on _).mono ?_
      unfold gUp
      rintro ee w2 ⟨rfl, rfl⟩
      go_wp2_with fail
      exact ⟨rfl, (lk_is ⟨by simp only [errSH, hf, if_true, nameS]; simp [orE, *], hn⟩).symm, g1⟩
  · replace hf : fitsS ⟨1, name⟩ e b.len l.len = false := by simpa using hf
    go_enter Tryz.func106, Tryz.ntmps106
    go_wp2_with fail
    go_at_call 136
    refine (kf _ hf).mono ?_
    rintro ee w1 ⟨rfl, f1⟩
    have h1 := f1.heap hbx (fun f => f)
    obtain ⟨c0, c1, c2, c3, c4⟩ := st_box h1
    have g1 := f0.same f1
    go_wp2_with fail
    go_at_call 57
    refine (must_not _ (by first | rfl | simpa using hf) 1 _).mono ?_
    unfold gUp
    rintro ee w2 ⟨rfl, rfl⟩
    go_wp2_with fail
    exact ⟨rfl, (lk_is ⟨by simp [errSH, orE, hf], by decide⟩).symm, g1⟩
set_option maxRecDepth 20000 in
set_option maxHeartbeats 4000000 in
theorem lookS_2 (name : Bs) (e : Exs) (b l : Sts) (kb : LookB b) (kl : LookB l) (ao1 ao2 ao3 : Option Addr) (cap1 cap2 cap3 : Nat) (w : World) (on : OkN name) (oe : OkX e) (ob : OkS b) (ol : OkS l) (he : ExL w ao1 cap1 e) (hb : StL w ao2 cap2 b) (hl : StL w ao3 cap3 l) :
    Calls Tryz.prog 106 #[stV ⟨2, name⟩ (.slice ao1 e.len cap1) (.slice ao2 b.len cap2) (.slice ao3 l.len cap3)] w fun ee w' => ee = lk (errSt ⟨2, name⟩ e b l) ∧ Fr (fun _ => False) w w' := by
  have m2 : cap2 ≤ 9223372036854775807 := by have := hb.2.1; unfold maxLen at this; omega
  have m3 : cap3 ≤ 9223372036854775807 := by have := hl.2.1; unfold maxLen at this; omega
  have hbx : Hidden ((w.alloc (.cells #[ci 2, ct name, .slice ao1 e.len cap1, .slice ao2 b.len cap2, .slice ao3 l.len cap3] 78)).heap[w.heap.size]? = some (.cells #[ci 2, ct name, .slice ao1 e.len cap1, .slice ao2 b.len cap2, .slice ao3 l.len cap3] 78 (0, 0))) := alloc_new _ _
  have f0 : Fr (fun _ => False) w (w.alloc (.cells #[ci 2, ct name, .slice ao1 e.len cap1, .slice ao2 b.len cap2, .slice ao3 l.len cap3] 78)) := Fr.alloc _ _ _
  have kf := fun r hr => sfits_any ⟨2, name⟩ e b.len l.len ao1 ao2 ao3 cap1 cap2 cap3 _ (he.keep f0) hb.1 m2 hl.1 m3 r hr
  have kx := look_any e
  unfold LookL at kx
  unfold LookB at kb kl
  unfold errSt
  by_cases hf : fitsS ⟨2, name⟩ e b.len l.len = true
  · by_cases hn : rnS name = 0
    · by_cases h3 : errL rnS cnS e = 0
      · by_cases h4 : errS rnS cnS b = 0
        · by_cases h5 : errS rnS cnS l = 0
          · go_enter Tryz.func106, Tryz.ntmps106
            go_wp2_with fail
            go_at_call 136
            refine (kf _ hf).mono ?_
            rintro ee w1 ⟨rfl, f1⟩
            have h1 := f1.heap hbx (fun f => f)
            obtain ⟨c0, c1, c2, c3, c4⟩ := st_box h1
            have g1 := f0.same f1
            go_wp2_with fail
            go_at_call 57
            refine (must_yes _ (by first | rfl | simpa using hf) 1 _).mono ?_
            rintro ee w2 ⟨rfl, rfl⟩
            go_wp2_with fail
            go_at_call 63
            refine (mustName_ok name hn on _).mono ?_
            rintro ee w2 ⟨rfl, rfl⟩
            go_wp2_with fail
            go_at_call 75
            refine (kx ao1 cap1 _ oe (he.keep g1)).mono ?_
            rw [h3, lk_0]
            rintro ee w3 ⟨rfl, f3⟩
            have h2 := f3.heap h1 (fun f => f)
            obtain ⟨c0, c1, c2, c3, c4⟩ := st_box h2
            have g3 := g1.same f3
            go_wp2_with fail
            go_at_call 81
            refine (kb ao2 cap2 _ ob (hb.keep g3)).mono ?_
            rw [h4, lk_0]
            rintro ee w4 ⟨rfl, f4⟩
            obtain ⟨c0, c1, c2, c3, c4⟩ := st_box (f4.heap h2 (fun f => f))
            have g4 := g3.same f4
            go_wp2_with fail
            go_at_call 81
            refine (kl ao3 cap3 _ ol (hl.keep g4)).mono ?_
            rw [h5, lk_0]
            rintro ee w5 ⟨rfl, f5⟩
            go_wp2_with fail
            go_end0
            refine ⟨?_, g4.same f5⟩
            rw [show orE _ _ = 0 from (by simp only [errSH, hf, if_true, nameS]; simp [orE, *])]
            rfl
          · go_enter Tryz.func106, Tryz.ntmps106
            go_wp2_with fail
            go_at_call 136
            refine (kf _ hf).mono ?_
            rintro ee w1 ⟨rfl, f1⟩
            have h1 := f1.heap hbx (fun f => f)
            obtain ⟨c0, c1, c2, c3, c4⟩ := st_box h1
            have g1 := f0.same f1
            go_wp2_with fail
            go_at_call 57
            refine (must_yes _ (by first | rfl | simpa using hf) 1 _).mono ?_
            rintro ee w2 ⟨rfl, rfl⟩
            go_wp2_with fail
            go_at_call 63
            refine (mustName_ok name hn on _).mono ?_
            rintro ee w2 ⟨rfl, rfl⟩
            go_wp2_with fail
            go_at_call 75
            refine (kx ao1 cap1 _ oe (he.keep g1)).mono ?_
            rw [h3, lk_0]
            rintro ee w3 ⟨rfl, f3⟩
            have h2 := f3.heap h1 (fun f => f)
            obtain ⟨c0, c1, c2, c3, c4⟩ := st_box h2
            have g3 := g1.same f3
            go_wp2_with fail
            go_at_call 81
            refine (kb ao2 cap2 _ ob (hb.keep g3)).mono ?_
            rw [h4, lk_0]
            rintro ee w4 ⟨rfl, f4⟩
            obtain ⟨c0, c1, c2, c3, c4⟩ := st_box (f4.heap h2 (fun f => f))
            have g4 := g3.same f4
            go_wp2_with fail
            go_at_call 81
            refine (kl ao3 cap3 _ ol (hl.keep g4)).mono ?_
            rw [lk_ne h5]
            unfold gUp
            rintro ee w5 ⟨rfl, f5⟩
            go_wp2_with fail
            exact ⟨rfl, (lk_is ⟨by simp only [errSH, hf, if_true, nameS]; simp [orE, *], h5⟩).symm, g4.same f5⟩
        · go_enter Tryz.func106, Tryz.ntmps106
          go_wp2_with fail
          go_at_call 136
          refine (kf _ hf).mono ?_
          rintro ee w1 ⟨rfl, f1⟩
          have h1 := f1.heap hbx (fun f => f)
          obtain ⟨c0, c1, c2, c3, c4⟩ := st_box h1
          have g1 := f0.same f1
          go_wp2_with fail
          go_at_call 57
          refine (must_yes _ (by first | rfl | simpa using hf) 1 _).mono ?_
          rintro ee w2 ⟨rfl, rfl⟩
          go_wp2_with fail
          go_at_call 63
          refine (mustName_ok name hn on _).mono ?_
          rintro ee w2 ⟨rfl, rfl⟩
          go_wp2_with fail
          go_at_call 75
          refine (kx ao1 cap1 _ oe (he.keep g1)).mono ?_
          rw [h3, lk_0]
          rintro ee w3 ⟨rfl, f3⟩
          have h2 := f3.heap h1 (fun f => f)
          obtain ⟨c0, c1, c2, c3, c4⟩ := st_box h2
          have g3 := g1.same f3
          go_wp2_with fail
          go_at_call 81
          refine (kb ao2 cap2 _ ob (hb.keep g3)).mono ?_
          rw [lk_ne h4]
          unfold gUp
          rintro ee w4 ⟨rfl, f4⟩
          go_wp2_with fail
          exact ⟨rfl, (lk_is ⟨by simp only [errSH, hf, if_true, nameS]; simp [orE, *], h4⟩).symm, g3.same f4⟩
      · go_enter Tryz.func106, Tryz.ntmps106
        go_wp2_with fail
        go_at_call 136
        refine (kf _ hf).mono ?_
        rintro ee w1 ⟨rfl, f1⟩
        have h1 := f1.heap hbx (fun f => f)
        obtain ⟨c0, c1, c2, c3, c4⟩ := st_box h1
        have g1 := f0.same f1
        go_wp2_with fail
        go_at_call 57
        refine (must_yes _ (by first | rfl | simpa using hf) 1 _).mono ?_
        rintro ee w2 ⟨rfl, rfl⟩
        go_wp2_with fail
        go_at_call 63
        refine (mustName_ok name hn on _).mono ?_
        rintro ee w2 ⟨rfl, rfl⟩
        go_wp2_with fail
        go_at_call 75
        refine (kx ao1 cap1 _ oe (he.keep g1)).mono ?_
        rw [lk_ne h3]
        unfold gUp
        rintro ee w3 ⟨rfl, f3⟩
        go_wp2_with fail
        exact ⟨rfl, (lk_is ⟨by simp only [errSH, hf, if_true, nameS]; simp [orE, *], h3⟩).symm, g1.same f3⟩
    · go_enter Tryz.func106, Tryz.ntmps106
      go_wp2_with fail
      go_at_call 136
      refine (kf _ hf).mono ?_
      rintro ee w1 ⟨rfl, f1⟩
      have h1 := f1.heap hbx (fun f => f)
      obtain ⟨c0, c1, c2, c3, c4⟩ := st_box h1
      have g1 := f0.same f1
      go_wp2_with fail
      go_at_call 57
      refine (must_yes _ (by first | rfl | simpa using hf) 1 _).mono ?_
      rintro ee w2 ⟨rfl, rfl⟩
      go_wp2_with fail
      go_at_call 63
      refine (mustName_no name _ rfl hn on _).mono ?_
      unfold gUp
      rintro ee w2 ⟨rfl, rfl⟩
      go_wp2_with fail
      exact ⟨rfl, (lk_is ⟨by simp only [errSH, hf, if_true, nameS]; simp [orE, *], hn⟩).symm, g1⟩
  · replace hf : fitsS ⟨2, name⟩ e b.len l.len = false := by simpa using hf
    go_enter Tryz.func106, Tryz.ntmps106
    go_wp2_with fail
    go_at_call 136
    refine (kf _ hf).mono ?_
    rintro ee w1 ⟨rfl, f1⟩
    have h1 := f1.heap hbx (fun f => f)
    obtain ⟨c0, c1, c2, c3, c4⟩ := st_box h1
    have g1 := f0.same f1
    go_wp2_with fail
    go_at_call 57
    refine (must_not _ (by first | rfl | simpa using hf) 1 _).mono ?_
    unfold gUp
    rintro ee w2 ⟨rfl, rfl⟩
    go_wp2_with fail
    exact ⟨rfl, (lk_is ⟨by simp [errSH, orE, hf], by decide⟩).symm, g1⟩
set_option maxRecDepth 20000 in
set_option maxHeartbeats 4000000 in
theorem lookS_8 (name : Bs) (e : Exs) (b l : Sts) (kb : LookB b) (kl : LookB l) (ao1 ao2 ao3 : Option Addr) (cap1 cap2 cap3 : Nat) (w : World) (on : OkN name) (oe : OkX e) (ob : OkS b) (ol : OkS l) (he : ExL w ao1 cap1 e) (hb : StL w ao2 cap2 b) (hl : StL w ao3 cap3 l) :
    Calls Tryz.prog 106 #[stV ⟨8, name⟩ (.slice ao1 e.len cap1) (.slice ao2 b.len cap2) (.slice ao3 l.len cap3)] w fun ee w' => ee = lk (errSt ⟨8, name⟩ e b l) ∧ Fr (fun _ => False) w w' := by
  have m2 : cap2 ≤ 9223372036854775807 := by have := hb.2.1; unfold maxLen at this; omega
  have m3 : cap3 ≤ 9223372036854775807 := by have := hl.2.1; unfold maxLen at this; omega
  have hbx : Hidden ((w.alloc (.cells #[ci 8, ct name, .slice ao1 e.len cap1, .slice ao2 b.len cap2, .slice ao3 l.len cap3] 78)).heap[w.heap.size]? = some (.cells #[ci 8, ct name, .slice ao1 e.len cap1, .slice ao2 b.len cap2, .slice ao3 l.len cap3] 78 (0, 0))) := alloc_new _ _
  have f0 : Fr (fun _ => False) w (w.alloc (.cells #[ci 8, ct name, .slice ao1 e.len cap1, .slice ao2 b.len cap2, .slice ao3 l.len cap3] 78)) := Fr.alloc _ _ _
  have kf := fun r hr => sfits_any ⟨8, name⟩ e b.len l.len ao1 ao2 ao3 cap1 cap2 cap3 _ (he.keep f0) hb.1 m2 hl.1 m3 r hr
  have kx := look_any e
  unfold LookL at kx
  unfold LookB at kb kl
  unfold errSt
  by_cases hf : fitsS ⟨8, name⟩ e b.len l.len = true
  · by_cases hn : rnS name = 0
    · by_cases h3 : errL rnS cnS e = 0
      · by_cases h4 : errS rnS cnS b = 0
        · by_cases h5 : errS rnS cnS l = 0
          · go_enter Tryz.func106, Tryz.ntmps106
            go_wp2_with fail
            go_at_call 136
            refine (kf _ hf).mono ?_
            rintro ee w1 ⟨rfl, f1⟩
            have h1 := f1.heap hbx (fun f => f)
            obtain ⟨c0, c1, c2, c3, c4⟩ := st_box h1
            have g1 := f0.same f1
            go_wp2_with fail
            go_at_call 57
            refine (must_yes _ (by first | rfl | simpa using hf) 1 _).mono ?_
            rintro ee w2 ⟨rfl, rfl⟩
            go_wp2_with fail
            go_at_call 63
            refine (mustName_ok name hn on _).mono ?_
            rintro ee w2 ⟨rfl, rfl⟩
            go_wp2_with fail
            go_at_call 75
            refine (kx ao1 cap1 _ oe (he.keep g1)).mono ?_
            rw [h3, lk_0]
            rintro ee w3 ⟨rfl, f3⟩
            have h2 := f3.heap h1 (fun f => f)
            obtain ⟨c0, c1, c2, c3, c4⟩ := st_box h2
            have g3 := g1.same f3
            go_wp2_with fail
            go_at_call 81
            refine (kb ao2 cap2 _ ob (hb.keep g3)).mono ?_
            rw [h4, lk_0]
            rintro ee w4 ⟨rfl, f4⟩
            obtain ⟨c0, c1, c2, c3, c4⟩ := st_box (f4.heap h2 (fun f => f))
            have g4 := g3.same f4
            go_wp2_with fail
            go_at_call 81
            refine (kl ao3 cap3 _ ol (hl.keep g4)).mono ?_
            rw [h5, lk_0]
            rintro ee w5 ⟨rfl, f5⟩
            go_wp2_with fail
            go_end0
            refine ⟨?_, g4.same f5⟩
            rw [show orE _ _ = 0 from (by simp only [errSH, hf, if_true, nameS]; simp [orE, *])]
            rfl
          · go_enter Tryz.func106, Tryz.ntmps106
            go_wp2_with fail
            go_at_call 136
            refine (kf _ hf).mono ?_
            rintro ee w1 ⟨rfl, f1⟩
            have h1 := f1.heap hbx (fun f => f)
            obtain ⟨c0, c1, c2, c3, c4⟩ := st_box h1
            have g1 := f0.same f1
            go_wp2_with fail
            go_at_call 57
            refine (must_yes _ (by first | rfl | simpa using hf) 1 _).mono ?_
            rintro ee w2 ⟨rfl, rfl⟩
            go_wp2_with fail
            go_at_call 63
            refine (mustName_ok name hn on _).mono ?_
            rintro ee w2 ⟨rfl, rfl⟩
            go_wp2_with fail
            go_at_call 75
            refine (kx ao1 cap1 _ oe (he.keep g1)).mono ?_
            rw [h3, lk_0]
            rintro ee w3 ⟨rfl, f3⟩
            have h2 := f3.heap h1 (fun f => f)
            obtain ⟨c0, c1, c2, c3, c4⟩ := st_box h2
            have g3 := g1.same f3
            go_wp2_with fail
            go_at_call 81
            refine (kb ao2 cap2 _ ob (hb.keep g3)).mono ?_
            rw [h4, lk_0]
            rintro ee w4 ⟨rfl, f4⟩
            obtain ⟨c0, c1, c2, c3, c4⟩ := st_box (f4.heap h2 (fun f => f))
            have g4 := g3.same f4
            go_wp2_with fail
            go_at_call 81
            refine (kl ao3 cap3 _ ol (hl.keep g4)).mono ?_
            rw [lk_ne h5]
            unfold gUp
            rintro ee w5 ⟨rfl, f5⟩
            go_wp2_with fail
            exact ⟨rfl, (lk_is ⟨by simp only [errSH, hf, if_true, nameS]; simp [orE, *], h5⟩).symm, g4.same f5⟩
        · go_enter Tryz.func106, Tryz.ntmps106
          go_wp2_with fail
          go_at_call 136
          refine (kf _ hf).mono ?_
          rintro ee w1 ⟨rfl, f1⟩
          have h1 := f1.heap hbx (fun f => f)
          obtain ⟨c0, c1, c2, c3, c4⟩ := st_box h1
          have g1 := f0.same f1
          go_wp2_with fail
          go_at_call 57
          refine (must_yes _ (by first | rfl | simpa using hf) 1 _).mono ?_
          rintro ee w2 ⟨rfl, rfl⟩
          go_wp2_with fail
          go_at_call 63
          refine (mustName_ok name hn on _).mono ?_
          rintro ee w2 ⟨rfl, rfl⟩
          go_wp2_with fail
          go_at_call 75
          refine (kx ao1 cap1 _ oe (he.keep g1)).mono ?_
          rw [h3, lk_0]
          rintro ee w3 ⟨rfl, f3⟩
          have h2 := f3.heap h1 (fun f => f)
          obtain ⟨c0, c1, c2, c3, c4⟩ := st_box h2
          have g3 := g1.same f3
          go_wp2_with fail
          go_at_call 81
          refine (kb ao2 cap2 _ ob (hb.keep g3)).mono ?_
          rw [lk_ne h4]
          unfold gUp
          rintro ee w4 ⟨rfl, f4⟩
          go_wp2_with fail
          exact ⟨rfl, (lk_is ⟨by simp only [errSH, hf, if_true, nameS]; simp [orE, *], h4⟩).symm, g3.same f4⟩
      · go_enter Tryz.func106, Tryz.ntmps106
        go_wp2_with fail
        go_at_call 136
        refine (kf _ hf).mono ?_
        rintro ee w1 ⟨rfl, f1⟩
        have h1 := f1.heap hbx (fun f => f)
        obtain ⟨c0, c1, c2, c3, c4⟩ := st_box h1
        have g1 := f0.same f1
        go_wp2_with fail
        go_at_call 57
        refine (must_yes _ (by first | rfl | simpa using hf) 1 _).mono ?_
        rintro ee w2 ⟨rfl, rfl⟩
        go_wp2_with fail
        go_at_call 63
        refine (mustName_ok name hn on _).mono ?_
        rintro ee w2 ⟨rfl, rfl⟩
        go_wp2_with fail
        go_at_call 75
        refine (kx ao1 cap1 _ oe (he.keep g1)).mono ?_
        rw [lk_ne h3]
        unfold gUp
        rintro ee w3 ⟨rfl, f3⟩
        go_wp2_with fail
        exact ⟨rfl, (lk_is ⟨by simp only [errSH, hf, if_true, nameS]; simp [orE, *], h3⟩).symm, g1.same f3⟩
    · go_enter Tryz.func106, Tryz.ntmps106
      go_wp2_with fail
      go_at_call 136
      refine (kf _ hf).mono ?_
      rintro ee w1 ⟨rfl, f1⟩
      have h1 := f1.heap hbx (fun f => f)
      obtain ⟨c0, c1, c2, c3, c4⟩ := st_box h1
      have g1 := f0.same f1
      go_wp2_with fail
      go_at_call 57
      refine (must_yes _ (by first | rfl | simpa using hf) 1 _).mono ?_
      rintro ee w2 ⟨rfl, rfl⟩
      go_wp2_with fail
      go_at_call 63
      refine (mustName_no name _ rfl hn on _).mono ?_
      unfold gUp
      rintro ee w2 ⟨rfl, rfl⟩
      go_wp2_with fail
      exact ⟨rfl, (lk_is ⟨by simp only [errSH, hf, if_true, nameS]; simp [orE, *], hn⟩).symm, g1⟩
  · replace hf : fitsS ⟨8, name⟩ e b.len l.len = false := by simpa using hf
    go_enter Tryz.func106, Tryz.ntmps106
    go_wp2_with fail
    go_at_call 136
    refine (kf _ hf).mono ?_
    rintro ee w1 ⟨rfl, f1⟩
    have h1 := f1.heap hbx (fun f => f)
    obtain ⟨c0, c1, c2, c3, c4⟩ := st_box h1
    have g1 := f0.same f1
    go_wp2_with fail
    go_at_call 57
    refine (must_not _ (by first | rfl | simpa using hf) 1 _).mono ?_
    unfold gUp
    rintro ee w2 ⟨rfl, rfl⟩
    go_wp2_with fail
    exact ⟨rfl, (lk_is ⟨by simp [errSH, orE, hf], by decide⟩).symm, g1⟩
set_option maxRecDepth 20000 in
set_option maxHeartbeats 4000000 in
theorem lookS_no (name : Bs) (e : Exs) (b l : Sts) (kind : Int) (kb : LookB b) (kl : LookB l) (ao1 ao2 ao3 : Option Addr) (cap1 cap2 cap3 : Nat) (w : World) (on : OkN name) (oe : OkX e) (ob : OkS b) (ol : OkS l) (he : ExL w ao1 cap1 e) (hb : StL w ao2 cap2 b) (hl : StL w ao3 cap3 l) (n1 : kind ≠ 1) (n2 : kind ≠ 2) (n8 : kind ≠ 8) :
    Calls Tryz.prog 106 #[stV ⟨kind, name⟩ (.slice ao1 e.len cap1) (.slice ao2 b.len cap2) (.slice ao3 l.len cap3)] w fun ee w' => ee = lk (errSt ⟨kind, name⟩ e b l) ∧ Fr (fun _ => False) w w' := by
  have m2 : cap2 ≤ 9223372036854775807 := by have := hb.2.1; unfold maxLen at this; omega
  have m3 : cap3 ≤ 9223372036854775807 := by have := hl.2.1; unfold maxLen at this; omega
  have hbx : Hidden ((w.alloc (.cells #[ci kind, ct name, .slice ao1 e.len cap1, .slice ao2 b.len cap2, .slice ao3 l.len cap3] 78)).heap[w.heap.size]? = some (.cells #[ci kind, ct name, .slice ao1 e.len cap1, .slice ao2 b.len cap2, .slice ao3 l.len cap3] 78 (0, 0))) := alloc_new _ _
  have f0 : Fr (fun _ => False) w (w.alloc (.cells #[ci kind, ct name, .slice ao1 e.len cap1, .slice ao2 b.len cap2, .slice ao3 l.len cap3] 78)) := Fr.alloc _ _ _
  have kf := fun r hr => sfits_any ⟨kind, name⟩ e b.len l.len ao1 ao2 ao3 cap1 cap2 cap3 _ (he.keep f0) hb.1 m2 hl.1 m3 r hr
  have kx := look_any e
  unfold LookL at kx
  unfold LookB at kb kl
  unfold errSt
  have m1x : (kind == 1) = false := by simp [n1]
  have m2x : (kind == 2) = false := by simp [n2]
  have m8x : (kind == 8) = false := by simp [n8]
  by_cases hf : fitsS ⟨kind, name⟩ e b.len l.len = true
  · by_cases h3 : errL rnS cnS e = 0
    · by_cases h4 : errS rnS cnS b = 0
      · by_cases h5 : errS rnS cnS l = 0
        · go_enter Tryz.func106, Tryz.ntmps106
          go_wp2_with fail
          go_at_call 136
          refine (kf _ hf).mono ?_
          rintro ee w1 ⟨rfl, f1⟩
          have h1 := f1.heap hbx (fun f => f)
          obtain ⟨c0, c1, c2, c3, c4⟩ := st_box h1
          have g1 := f0.same f1
          go_wp2_with fail
          go_at_call 57
          refine (must_yes _ (by first | rfl | simpa using hf) 1 _).mono ?_
          rintro ee w2 ⟨rfl, rfl⟩
          go_wp2_with fail
          go_at_call 75
          refine (kx ao1 cap1 _ oe (he.keep g1)).mono ?_
          rw [h3, lk_0]
          rintro ee w3 ⟨rfl, f3⟩
          have h2 := f3.heap h1 (fun f => f)
          obtain ⟨c0, c1, c2, c3, c4⟩ := st_box h2
          have g3 := g1.same f3
          go_wp2_with fail
          go_at_call 81
          refine (kb ao2 cap2 _ ob (hb.keep g3)).mono ?_
          rw [h4, lk_0]
          rintro ee w4 ⟨rfl, f4⟩
          obtain ⟨c0, c1, c2, c3, c4⟩ := st_box (f4.heap h2 (fun f => f))
          have g4 := g3.same f4
          go_wp2_with fail
          go_at_call 81
          refine (kl ao3 cap3 _ ol (hl.keep g4)).mono ?_
          rw [h5, lk_0]
          rintro ee w5 ⟨rfl, f5⟩
          go_wp2_with fail
          go_end0
          refine ⟨?_, g4.same f5⟩
          rw [show orE _ _ = 0 from (by simp only [errSH, hf, if_true, nameS]; simp [orE, *])]
          rfl
        · go_enter Tryz.func106, Tryz.ntmps106
          go_wp2_with fail
          go_at_call 136
          refine (kf _ hf).mono ?_
          rintro ee w1 ⟨rfl, f1⟩
          have h1 := f1.heap hbx (fun f => f)
          obtain ⟨c0, c1, c2, c3, c4⟩ := st_box h1
          have g1 := f0.same f1
          go_wp2_with fail
          go_at_call 57
          refine (must_yes _ (by first | rfl | simpa using hf) 1 _).mono ?_
          rintro ee w2 ⟨rfl, rfl⟩
          go_wp2_with fail
          go_at_call 75
          refine (kx ao1 cap1 _ oe (he.keep g1)).mono ?_
          rw [h3, lk_0]
          rintro ee w3 ⟨rfl, f3⟩
          have h2 := f3.heap h1 (fun f => f)
          obtain ⟨c0, c1, c2, c3, c4⟩ := st_box h2
          have g3 := g1.same f3
          go_wp2_with fail
          go_at_call 81
          refine (kb ao2 cap2 _ ob (hb.keep g3)).mono ?_
          rw [h4, lk_0]
          rintro ee w4 ⟨rfl, f4⟩
          obtain ⟨c0, c1, c2, c3, c4⟩ := st_box (f4.heap h2 (fun f => f))
          have g4 := g3.same f4
          go_wp2_with fail
          go_at_call 81
          refine (kl ao3 cap3 _ ol (hl.keep g4)).mono ?_
          rw [lk_ne h5]
          unfold gUp
          rintro ee w5 ⟨rfl, f5⟩
          go_wp2_with fail
          exact ⟨rfl, (lk_is ⟨by simp only [errSH, hf, if_true, nameS]; simp [orE, *], h5⟩).symm, g4.same f5⟩
      · go_enter Tryz.func106, Tryz.ntmps106
        go_wp2_with fail
        go_at_call 136
        refine (kf _ hf).mono ?_
        rintro ee w1 ⟨rfl, f1⟩
        have h1 := f1.heap hbx (fun f => f)
        obtain ⟨c0, c1, c2, c3, c4⟩ := st_box h1
        have g1 := f0.same f1
        go_wp2_with fail
        go_at_call 57
        refine (must_yes _ (by first | rfl | simpa using hf) 1 _).mono ?_
        rintro ee w2 ⟨rfl, rfl⟩
        go_wp2_with fail
        go_at_call 75
        refine (kx ao1 cap1 _ oe (he.keep g1)).mono ?_
        rw [h3, lk_0]
        rintro ee w3 ⟨rfl, f3⟩
        have h2 := f3.heap h1 (fun f => f)
        obtain ⟨c0, c1, c2, c3, c4⟩ := st_box h2
        have g3 := g1.same f3
        go_wp2_with fail
        go_at_call 81
        refine (kb ao2 cap2 _ ob (hb.keep g3)).mono ?_
        rw [lk_ne h4]
        unfold gUp
        rintro ee w4 ⟨rfl, f4⟩
        go_wp2_with fail
        exact ⟨rfl, (lk_is ⟨by simp only [errSH, hf, if_true, nameS]; simp [orE, *], h4⟩).symm, g3.same f4⟩
    · go_enter Tryz.func106, Tryz.ntmps106
      go_wp2_with fail
      go_at_call 136
      refine (kf _ hf).mono ?_
      rintro ee w1 ⟨rfl, f1⟩
      have h1 := f1.heap hbx (fun f => f)
      obtain ⟨c0, c1, c2, c3, c4⟩ := st_box h1
      have g1 := f0.same f1
      go_wp2_with fail
      go_at_call 57
      refine (must_yes _ (by first | rfl | simpa using hf) 1 _).mono ?_
      rintro ee w2 ⟨rfl, rfl⟩
      go_wp2_with fail
      go_at_call 75
      refine (kx ao1 cap1 _ oe (he.keep g1)).mono ?_
      rw [lk_ne h3]
      unfold gUp
      rintro ee w3 ⟨rfl, f3⟩
      go_wp2_with fail
      exact ⟨rfl, (lk_is ⟨by simp only [errSH, hf, if_true, nameS]; simp [orE, *], h3⟩).symm, g1.same f3⟩
  · replace hf : fitsS ⟨kind, name⟩ e b.len l.len = false := by simpa using hf
    go_enter Tryz.func106, Tryz.ntmps106
    go_wp2_with fail
    go_at_call 136
    refine (kf _ hf).mono ?_
    rintro ee w1 ⟨rfl, f1⟩
    have h1 := f1.heap hbx (fun f => f)
    obtain ⟨c0, c1, c2, c3, c4⟩ := st_box h1
    have g1 := f0.same f1
    go_wp2_with fail
    go_at_call 57
    refine (must_not _ (by first | rfl | simpa using hf) 1 _).mono ?_
    unfold gUp
    rintro ee w2 ⟨rfl, rfl⟩
    go_wp2_with fail
    exact ⟨rfl, (lk_is ⟨by simp [errSH, orE, hf], by decide⟩).symm, g1⟩
theorem lookS_step (h : SH) (e : Exs) (b l : Sts) (kb : LookB b) (kl : LookB l) (ao1 ao2 ao3 : Option Addr) (cap1 cap2 cap3 : Nat) (w : World) (on : OkN h.name) (oe : OkX e) (ob : OkS b) (ol : OkS l) (he : ExL w ao1 cap1 e) (hb : StL w ao2 cap2 b) (hl : StL w ao3 cap3 l) :
    Calls Tryz.prog 106 #[stV h (.slice ao1 e.len cap1) (.slice ao2 b.len cap2) (.slice ao3 l.len cap3)] w fun ee w' => ee = lk (errSt h e b l) ∧ Fr (fun _ => False) w w' := by
  obtain ⟨kind, name⟩ := h
  by_cases n1 : kind = 1
  · subst n1; exact lookS_1 name e b l kb kl ao1 ao2 ao3 cap1 cap2 cap3 w on oe ob ol he hb hl
  by_cases n2 : kind = 2
  · subst n2; exact lookS_2 name e b l kb kl ao1 ao2 ao3 cap1 cap2 cap3 w on oe ob ol he hb hl
  by_cases n8 : kind = 8
  · subst n8; exact lookS_8 name e b l kb kl ao1 ao2 ao3 cap1 cap2 cap3 w on oe ob ol he hb hl
  exact lookS_no name e b l kind kb kl ao1 ao2 ao3 cap1 cap2 cap3 w on oe ob ol he hb hl n1 n2 n8
set_option maxRecDepth 20000 in
set_option maxHeartbeats 4000000 in
theorem lookB_step (k : Sts) (ih : ∀ k' : Sts, k'.size < k.size → LookB k') : LookB k := by
  intro ao cap w hx hk
  have hrest := hk.rest
  obtain ⟨hcap, hmax, _⟩ := hk
  have hlen : k.len ≤ 9223372036854775807 := by unfold maxLen at hmax; omega
  go_enter Tryz.func81, Tryz.ntmps81
  go_wp2_with fail
  go_loopg [6] k.len (fun g iv wr => ∃ (i : Nat) (r : Sts), iv = ci (i : Int) ∧ i + r.len = k.len ∧ r.size ≤ k.size ∧ OkS r ∧ StR w ao i r ∧ errS rnS cnS k = errS rnS cnS r ∧ g = r.len ∧ Fr (fun _ => False) w wr)
  case atStart => exact ⟨0, k, rfl, by omega, Nat.le_refl _, hx, hrest, rfl, rfl, Fr.refl _ _⟩
  case round =>
    obtain ⟨i, r, rfl, hlen2, hsize, hok, hrow, hdk, hgk, hfr⟩ := hrel
    have hgkH : Hidden (gk = r.len) := hgk
    have hdkH : Hidden (errS rnS cnS k = errS rnS cnS r) := hdk
    have hlenH : Hidden (i + r.len = k.len) := hlen2
    clear hgk hdk hlen2 hrest
    cases r with
    | nil =>
      have hi : i = k.len := hlenH
      subst hi
      go_wp2_with fail
      go_end0
      refine ⟨?_, hfr⟩
      rw [show errS rnS cnS k = 0 from hdkH]
      rfl
    | cons h' e' b' l' r' =>
      have hil : i < k.len := by have : i + (r'.len + 1) = k.len := hlenH; omega
      obtain ⟨b, off, ao1, cap1, ao2, cap2, ao3, cap3, rfl, hL1, hL2, hL3, hrow2, d0, d1, d2, d3, d4⟩ := hrow.next
      have d0 := hfr.cellN d0
      have d1 := hfr.cellN d1
      have d2 := hfr.cellN d2
      have d3 := hfr.cellN d3
      have d4 := hfr.cellN d4
      have f2 := hfr.same (Fr.alloc (fun _ => False) wr (.cells #[ci h'.kind, ct h'.name, .slice ao1 e'.len cap1, .slice ao2 b'.len cap2, .slice ao3 l'.len cap3] 78))
      simp only [Sts.size] at hsize
      obtain ⟨ok1, ok2, ok3, ok4, ok5, ok6⟩ := hok
      have kc := lookS_step h' e' b' l' (ih b' (by omega)) (ih l' (by omega)) ao1 ao2 ao3 cap1 cap2 cap3 _ ok2 ok3 ok4 ok5 (hL1.keep f2) (hL2.keep f2) (hL3.keep f2)
      have hdk2 : Hidden (errS rnS cnS k = orE (errSt h' e' b' l') (errS rnS cnS r')) := hdkH
      by_cases h0 : errSt h' e' b' l' = 0
      · rw [h0, lk_0] at kc
        rw [h0] at hdk2
        clear h0
        go_wp2_with fail
        go_at_call 106
        refine kc.mono ?_
        rintro e W3 ⟨rfl, f3⟩
        go_wp2_with fail
        go_roundg r'.len
        case measure =>
          have : gk = r'.len + 1 := hgkH
          omega
        case rel =>
          refine ⟨i + 1, r', by go_num, ?_, by omega, ok6, hrow2, hdk2, rfl, f2.same f3⟩
          have : i + (r'.len + 1) = k.len := hlenH
          omega
      · rw [lk_ne h0] at kc
        have hdk3 : errS rnS cnS k = errSt h' e' b' l' := by rw [show errS rnS cnS k = _ from hdk2, orE_ne _ h0]
        unfold gUp at kc
        go_wp2_with fail
        go_at_call 106
        refine kc.mono ?_
        rintro e W3 ⟨rfl, f3⟩
        go_wp2_with fail
        exact ⟨rfl, (lk_is ⟨hdk3, h0⟩).symm, f2.same f3⟩
theorem lookB_any (k : Sts) : LookB k := by
  have : ∀ (n : Nat) (k : Sts), k.size < n → LookB k := by
    intro n
    induction n with
    | zero => intro k hk; omega
    | succ n ih => intro k hk; exact lookB_step k (fun k' hk' => ih k' (by omega))
  exact this (k.size + 1) k (by omega)
end Go.Proofs.YtfkccanjdlajlabGreatDoor
