/- PvB -/
import Derived.Test.YteijjaabngkbjaaGreatDoorPvAB
import Derived.Deep.RegionHeld3
namespace Go.Proofs.YteijjaabngkbjaaGreatDoor.V
open Go.RowKit Te
set_option linter.unusedSimpArgs false
set_option linter.unusedVariables false
def LinW (k : Sts) (n : Nat) : Prop := ∀ (z : Int), z = (n : Int) → ∀ (ao : Option Addr) (cap : Nat) (w0 w : World) (B : Nat) (v : Value) (Z A T : Bs), StL w0 ao cap k → OW w0 B v Z w → Zo A Z → Hidden (A ++ stT txS k n = T) → T.length ≤ 140737488355328 →
  Calls Tryz.prog 20 #[.slice ao k.len cap, ci z, v] w fun e w' => ∃ v' Z', e = .returned v' ∧ OW w0 B v' Z' w' ∧ Zo T Z' ∧ Fr (BY B w) w w'
def LinC (k : Sts) : Prop := ∀ (n : Nat) (a : Int), n ≤ 32 → errS rnS cnS k = 0 → OkS k → dS k (n : Int) a ≤ 32 → LinW k n
set_option maxRecDepth 20000 in
set_option maxHeartbeats 40000000 in
theorem lin_step (k : Sts) (ih : ∀ k' : Sts, k'.size < k.size → LinC k') : LinC k := by
  intro n a0 hn he0 ho0 hd0 z hz ao cap w0 w B v Z A T hk hw hzo hT hl
  subst hz
  have hrest := hk.rest
  obtain ⟨hcap, hmax, _⟩ := hk
  have hlen : k.len ≤ 9223372036854775807 := by unfold maxLen at hmax; omega
  have hcap2 : cap ≤ 9223372036854775807 := by unfold maxLen at hmax; omega
  have kp := fun w => pad_any n (by omega) (n : Int) rfl w
  have hPl : (Te.pad n).length = 2 * n := Pz.pad_ln n
  obtain ⟨P, hP⟩ : ∃ P, Te.pad n = P := ⟨_, rfl⟩
  rw [hP] at kp hPl
  have hPH : Hidden (Te.pad n = P) := hP
  clear hP
  go_enter Tryz.func20, Tryz.ntmps20
  go_wp2_with fail
  go_loopg [2, 7] k.len (fun g ov iv wr => ∃ (i : Nat) (r : Sts) (Zc Ac : Bs) (aa : Int) (vo : Value), vo = ov ∧ iv = ci (i : Int) ∧ i + r.len = k.len ∧ r.size ≤ k.size ∧ StR w0 ao i r ∧ errS rnS cnS r = 0 ∧ OkS r ∧ dS r (n : Int) aa ≤ 32 ∧ Ac ++ stT txS r n = T ∧ g = r.len ∧ OW w0 B vo Zc wr ∧ Zo Ac Zc ∧ Fr (BY B w) w wr)
  case atStart => exact ⟨0, k, Z, A, a0, v, rfl, rfl, by omega, Nat.le_refl _, hrest, he0, ho0, hd0, hT, rfl, hw, hzo, Fr.refl _ _⟩
  case round =>
    obtain ⟨i, r, Zc, Ac, aa, vo, rfl, rfl, hlen2, hsize, hrow, her, hor, hdr, hac, hgk, how, hzc, hfr⟩ := hrel
    have hgkH : Hidden (gk = r.len) := hgk
    have hacH : Hidden (Ac ++ stT txS r n = T) := hac
    have hlenH : Hidden (i + r.len = k.len) := hlen2
    have herH : Hidden (errS rnS cnS r = 0) := her
    have hZA : Zc.length ≤ Ac.length := hzc.2.2
    have hAl : Ac.length ≤ 140737488355328 := app_le hac hl
    obtain ⟨aoo, capo, rfl, hcl, hcm⟩ := how.shape
    clear hgk hac hlen2 hrest her he0 hT
    cases r with
    | nil =>
      have hi : i = k.len := hlenH
      subst hi
      have hA : Ac = T := by have := (show _ = T from hacH); simpa [stT] using this
      subst hA
      go_wp2_with fail
      go_ret
      exact ⟨_, Zc, rfl, how, hzc, hfr⟩
    | cons h' e' b' l' r' =>
      have hil : i < k.len := by have : i + (r'.len + 1) = k.len := hlenH; omega
      by_cases hbig : Zc.length ≤ 4096
      rotate_left
      · have hz2 : Zo T Zc := by
          rw [← (show _ = T from hacH)]
          exact hzc.stop (by omega) _
        clear hacH
        go_wp2_with fail
        go_ret
        exact ⟨_, Zc, rfl, how, hz2, hfr⟩
      obtain ⟨b0, off, ao1, cap1, ao2, cap2, ao3, cap3, rfl, hL1, hL2, hL3, hrow2, c0, c1, c2, c3, c4⟩ := hrow.next
      have d0 := how.fr.cellN c0
      have d1 := how.fr.cellN c1
      have d2 := how.fr.cellN c2
      have d3 := how.fr.cellN c3
      have d4 := how.fr.cellN c4
      clear c0 c1 c2 c3 c4
      have m1 : cap1 ≤ 9223372036854775807 := by have := hL1.2.1; unfold maxLen at this; omega
      have m2 : cap2 ≤ 9223372036854775807 := by have := hL2.2.1; unfold maxLen at this; omega
      have m3 : cap3 ≤ 9223372036854775807 := by have := hL3.2.1; unfold maxLen at this; omega
      have m1' := hL1.1
      have m2' := hL2.1
      have m3' := hL3.1
      have f0 := Fr.alloc (fun _ => False) wr (stO h'.kind h'.name (.slice ao1 e'.len cap1) (.slice ao2 b'.len cap2) (.slice ao3 l'.len cap3))
      have hbx : Hidden ((wr.alloc (stO h'.kind h'.name (.slice ao1 e'.len cap1) (.slice ao2 b'.len cap2) (.slice ao3 l'.len cap3))).heap[wr.heap.size]? = some (stO h'.kind h'.name (.slice ao1 e'.len cap1) (.slice ao2 b'.len cap2) (.slice ao3 l'.len cap3))) := alloc_new _ _
      simp only [Sts.size] at hsize
      have her2 : errS rnS cnS (.cons h' e' b' l' r') = 0 := herH
      rw [errS] at her2
      obtain ⟨a1, a2⟩ := Pz.orE_0 her2
      obtain ⟨a3, a4⟩ := Pz.orE_0 a1
      obtain ⟨a5, a6⟩ := Pz.orE_0 a4
      obtain ⟨a7, a8⟩ := Pz.orE_0 a6
      obtain ⟨_, _, s1, s2, s3, s4⟩ := hor
      obtain ⟨q1, q2, q3, aa', q4⟩ := Pz.dS_cons (by omega) (by omega) hdr
      have hB : hasBody h'.kind = true → LinW b' (n + 1) := fun hb => by
        have := q2 (Or.inl hb)
        have := Pz.dS_acc b' ((n : Int) + 1) ((n : Int) + 1)
        exact ih b' (by omega) (n + 1) ((n : Int) + 1) (by omega) a7 s2 (by simpa using q2 (Or.inl hb))
      have hL : h'.kind = 8 ∨ 0 < l'.len → LinW l' (n + 1) := fun hb => by
        have := q3 hb
        have := Pz.dS_acc l' ((n : Int) + 1) ((n : Int) + 1)
        exact ih l' (by omega) (n + 1) ((n : Int) + 1) (by omega) a8 s3 (by simpa using q3 hb)
      have hT1 : Hidden (Ac ++ stT txS (.cons h' e' b' l' .nil) n ++ stT txS r' n = T) := by
        show _ = T
        rw [← (show _ = T from hacH), stT_one h' e' b' l' r', List.append_assoc]
      have hf : fitsS h' e' b'.len l'.len = true := Pz.ifx (c := fitsS h' e' b'.len l'.len = true) (Pz.orE_0 a3).1 (by decide)
      have fin : ∀ (Zn : Bs) (vn : Value) (wn : World), OW w0 B vn Zn wn → Zo (Ac ++ stT txS (.cons h' e' b' l' .nil) n) Zn → Fr (BY B wr) wr wn →
          ∃ (i2 : Nat) (r2 : Sts) (Zc Ac : Bs) (aa : Int) (vo : Value), vo = vn ∧ ci ((i : Int) + 1) = ci (i2 : Int) ∧ i2 + r2.len = k.len ∧ r2.size ≤ k.size ∧ StR w0 (some ⟨b0, off, none⟩) i2 r2 ∧ errS rnS cnS r2 = 0 ∧ OkS r2 ∧ dS r2 (n : Int) aa ≤ 32 ∧ Ac ++ stT txS r2 n = T ∧ r'.len = r2.len ∧ OW w0 B vo Zc wn ∧ Zo Ac Zc ∧ Fr (BY B w) w wn :=
        fun Zn vn wn g1 g2 g3 => ⟨i + 1, r', Zn, _, aa', vn, rfl, by simp, by have : i + (r'.len + 1) = k.len := hlenH; omega, by omega, hrow2, a2, s4, q4, hT1, rfl, g1, g2, by_trans hfr g3⟩
      have finH : Hidden (∀ (Zn : Bs) (vn : Value) (wn : World), _ → _ → _ → _) := fin
      have hT1l : (Ac ++ stT txS (.cons h' e' b' l' .nil) n).length ≤ 140737488355328 := app_le (show _ = T from hT1) hl
      clear herH her2 a1 a4 a6 hdr q1 q2 q3 hacH fin
      obtain ⟨kd, name⟩ := h'
      simp only at *
      unfold fitsS at hf
      simp only at hf
      by_cases k1 : kd = 1
      · subst k1
        have hel : e'.len = 1 := by simp at hf; omega
        clear hf
        obtain ⟨x, kx, bx, ofx, aok, capk, rfl, rfl, o1, o2, o3, o4, hk, e0, e1, e2, e3, e4, e5, e6⟩ := one_ex hL1 s1 a5 hel
        clear hel
        simp only [Exs.len, Nat.zero_add] at hbx f0 d2 m1'
        have g0 := how.fr.same f0
        have y0 := g0.cellN e0
        have y1 := g0.cellN e1
        have y2 := g0.cellN e2
        have y3 := g0.cellN e3
        have y4 := g0.cellN e4
        have y5 := g0.cellN e5
        have y6 := g0.cellN e6
        obtain ⟨E, hE⟩ : ∃ E, txA txS x kx 1 = E := ⟨_, rfl⟩
        have hEl : E.length ≤ (Ac ++ stT txS (.cons ⟨1, name⟩ (.cons x kx .nil) b' l' .nil) n).length := by
          rw [← hE, txA_one]
          simp [stT, txF, Exs.len]
          try split
          all_goals (try simp only [List.length_append, List.length_cons, List.length_nil])
          all_goals omega
        have ke := X.at_any x kx 1 aok capk _ E o1 o2 o3 o4 (hk.keep g0) hE (by omega)
        have hEH : Hidden (txA txS x kx 1 = E) := hE
        clear hE e0 e1 e2 e3 e4 e5 e6
        obtain ⟨S1, hS1⟩ : ∃ S, P ++ [108, 101, 116, 32] = S := ⟨_, rfl⟩
        obtain ⟨S2, hS2⟩ : ∃ S, S1 ++ name = S := ⟨_, rfl⟩
        obtain ⟨S3, hS3⟩ : ∃ S, S2 ++ [32, 61, 32] = S := ⟨_, rfl⟩
        obtain ⟨S4, hS4⟩ : ∃ S, S3 ++ E = S := ⟨_, rfl⟩
        obtain ⟨S5, hS5⟩ : ∃ S, S4 ++ [59, 10] = S := ⟨_, rfl⟩
        have lenS : S5.length ≤ 140737488355328 := by rw [← hS5, ← hS4, ← hS3, ← hS2, ← hS1]; simp only [List.length_append, List.length_cons, List.length_nil]; rw [← (show _ = E from hEH), ← (show _ = P from hPH)] ; have hh := hT1l; simp [stT, txF, txA_one] at hh ⊢; omega
        have cS1 := fun w => X.catv P [108, 101, 116, 32] S1 hS1 (by have := lenS; rw [← hS5, ← hS4, ← hS3, ← hS2] at this; simp only [List.length_append] at this; omega) w
        have cS2 := fun w => X.catv S1 name S2 hS2 (by have := lenS; rw [← hS5, ← hS4, ← hS3] at this; simp only [List.length_append] at this; omega) w
        have cS3 := fun w => X.catv S2 [32, 61, 32] S3 hS3 (by have := lenS; rw [← hS5, ← hS4] at this; simp only [List.length_append] at this; omega) w
        have cS4 := fun w => X.catv S3 E S4 hS4 (by have := lenS; rw [← hS5] at this; simp only [List.length_append] at this; omega) w
        have cS5 := fun w => X.catv S4 [59, 10] S5 hS5 (by have := lenS; omega) w
        have HS1 : Hidden (_ = S1) := hS1
        have HS2 : Hidden (_ = S2) := hS2
        have HS3 : Hidden (_ = S3) := hS3
        have HS4 : Hidden (_ = S4) := hS4
        have HS5 : Hidden (_ = S5) := hS5
        clear hS1 hS2 hS3 hS4 hS5 lenS
        have hS : Hidden (S5 = stT txS (.cons ⟨1, name⟩ (.cons x kx .nil) b' l' .nil) n) := by show _ = _; rw [← (show _ = S5 from HS5), ← (show _ = S4 from HS4), ← (show _ = S3 from HS3), ← (show _ = S2 from HS2), ← (show _ = S1 from HS1), ← (show _ = E from hEH), ← (show _ = P from hPH)]; simp [stT, txF, txA_one]
        obtain ⟨Z2, hZ2⟩ : ∃ Zn, Hidden (Zc ++ S5 = Zn) := ⟨_, (rfl : Zc ++ S5 = _)⟩
        have lZ2 : Z2.length ≤ 140737488355328 := by rw [← (show _ = Z2 from hZ2), (show S5 = _ from hS)]; have := hT1l; simp only [List.length_append] at this ⊢; omega
        have zZ2 : Hidden (Zo (Ac ++ stT txS (.cons ⟨1, name⟩ (.cons x kx .nil) b' l' .nil) n) Z2) := by rw [← (show _ = Z2 from hZ2), ← (show S5 = _ from hS)]; exact hzc.app _
        clear hS hT1l hEl
        go_wp2_with fail
        go_at_call 44
        refine (kp _).mono ?_
        rintro ee wp ⟨rfl, hwp⟩
        have hwp := hwp.symm
        subst hwp
        obtain ⟨c0, c1, c2, c3, c4⟩ := st_box hbx
        go_wp2_with fail
        go_at_call 43
        refine ke.mono ?_
        rintro ee w1 ⟨rfl, f1⟩
        have hb1 := f1.heap hbx (fun f => f)
        obtain ⟨c0, c1, c2, c3, c4⟩ := st_box hb1
        have how1 := how.quiet (f0.same f1)
        go_wp2_with (at_builtin; go_must (refine wpList_by rfl _ _ rfl w0 B _ Zc S5 Z2 rfl rfl how1 hZ2 lZ2 ?_); intro aon capn w2 hcn hmn how2 fn)
        go_roundg r'.len
        case measure =>
          have : gk = r'.len + 1 := hgkH
          omega
        case rel => exact finH Z2 _ _ how2 zZ2 (by_then (f0.same f1) fn)
      by_cases k2 : kd = 2
      · subst k2
        have hel : e'.len = 1 := by simp at hf; omega
        clear hf
        obtain ⟨x, kx, bx, ofx, aok, capk, rfl, rfl, o1, o2, o3, o4, hk, e0, e1, e2, e3, e4, e5, e6⟩ := one_ex hL1 s1 a5 hel
        clear hel
        simp only [Exs.len, Nat.zero_add] at hbx f0 d2 m1'
        have g0 := how.fr.same f0
        have y0 := g0.cellN e0
        have y1 := g0.cellN e1
        have y2 := g0.cellN e2
        have y3 := g0.cellN e3
        have y4 := g0.cellN e4
        have y5 := g0.cellN e5
        have y6 := g0.cellN e6
        obtain ⟨E, hE⟩ : ∃ E, txA txS x kx 1 = E := ⟨_, rfl⟩
        have hEl : E.length ≤ (Ac ++ stT txS (.cons ⟨2, name⟩ (.cons x kx .nil) b' l' .nil) n).length := by
          rw [← hE, txA_one]
          simp [stT, txF, Exs.len]
          try split
          all_goals (try simp only [List.length_append, List.length_cons, List.length_nil])
          all_goals omega
        have ke := X.at_any x kx 1 aok capk _ E o1 o2 o3 o4 (hk.keep g0) hE (by omega)
        have hEH : Hidden (txA txS x kx 1 = E) := hE
        clear hE e0 e1 e2 e3 e4 e5 e6
        obtain ⟨S1, hS1⟩ : ∃ S, P ++ name = S := ⟨_, rfl⟩
        obtain ⟨S2, hS2⟩ : ∃ S, S1 ++ [32, 61, 32] = S := ⟨_, rfl⟩
        obtain ⟨S3, hS3⟩ : ∃ S, S2 ++ E = S := ⟨_, rfl⟩
        obtain ⟨S4, hS4⟩ : ∃ S, S3 ++ [59, 10] = S := ⟨_, rfl⟩
        have lenS : S4.length ≤ 140737488355328 := by rw [← hS4, ← hS3, ← hS2, ← hS1]; simp only [List.length_append, List.length_cons, List.length_nil]; rw [← (show _ = E from hEH), ← (show _ = P from hPH)] ; have hh := hT1l; simp [stT, txF, txA_one] at hh ⊢; omega
        have cS1 := fun w => X.catv P name S1 hS1 (by have := lenS; rw [← hS4, ← hS3, ← hS2] at this; simp only [List.length_append] at this; omega) w
        have cS2 := fun w => X.catv S1 [32, 61, 32] S2 hS2 (by have := lenS; rw [← hS4, ← hS3] at this; simp only [List.length_append] at this; omega) w
        have cS3 := fun w => X.catv S2 E S3 hS3 (by have := lenS; rw [← hS4] at this; simp only [List.length_append] at this; omega) w
        have cS4 := fun w => X.catv S3 [59, 10] S4 hS4 (by have := lenS; omega) w
        have HS1 : Hidden (_ = S1) := hS1
        have HS2 : Hidden (_ = S2) := hS2
        have HS3 : Hidden (_ = S3) := hS3
        have HS4 : Hidden (_ = S4) := hS4
        clear hS1 hS2 hS3 hS4 lenS
        have hS : Hidden (S4 = stT txS (.cons ⟨2, name⟩ (.cons x kx .nil) b' l' .nil) n) := by show _ = _; rw [← (show _ = S4 from HS4), ← (show _ = S3 from HS3), ← (show _ = S2 from HS2), ← (show _ = S1 from HS1), ← (show _ = E from hEH), ← (show _ = P from hPH)]; simp [stT, txF, txA_one]
        obtain ⟨Z2, hZ2⟩ : ∃ Zn, Hidden (Zc ++ S4 = Zn) := ⟨_, (rfl : Zc ++ S4 = _)⟩
        have lZ2 : Z2.length ≤ 140737488355328 := by rw [← (show _ = Z2 from hZ2), (show S4 = _ from hS)]; have := hT1l; simp only [List.length_append] at this ⊢; omega
        have zZ2 : Hidden (Zo (Ac ++ stT txS (.cons ⟨2, name⟩ (.cons x kx .nil) b' l' .nil) n) Z2) := by rw [← (show _ = Z2 from hZ2), ← (show S4 = _ from hS)]; exact hzc.app _
        clear hS hT1l hEl
        go_wp2_with fail
        go_at_call 44
        refine (kp _).mono ?_
        rintro ee wp ⟨rfl, hwp⟩
        have hwp := hwp.symm
        subst hwp
        obtain ⟨c0, c1, c2, c3, c4⟩ := st_box hbx
        go_wp2_with fail
        go_at_call 43
        refine ke.mono ?_
        rintro ee w1 ⟨rfl, f1⟩
        have hb1 := f1.heap hbx (fun f => f)
        obtain ⟨c0, c1, c2, c3, c4⟩ := st_box hb1
        have how1 := how.quiet (f0.same f1)
        go_wp2_with (at_builtin; go_must (refine wpList_by rfl _ _ rfl w0 B _ Zc S4 Z2 rfl rfl how1 hZ2 lZ2 ?_); intro aon capn w2 hcn hmn how2 fn)
        go_roundg r'.len
        case measure =>
          have : gk = r'.len + 1 := hgkH
          omega
        case rel => exact finH Z2 _ _ how2 zZ2 (by_then (f0.same f1) fn)
      by_cases k6 : kd = 6
      · subst k6
        have hel : e'.len = 1 := by simp at hf; omega
        clear hf
        obtain ⟨x, kx, bx, ofx, aok, capk, rfl, rfl, o1, o2, o3, o4, hk, e0, e1, e2, e3, e4, e5, e6⟩ := one_ex hL1 s1 a5 hel
        clear hel
        simp only [Exs.len, Nat.zero_add] at hbx f0 d2 m1'
        have g0 := how.fr.same f0
        have y0 := g0.cellN e0
        have y1 := g0.cellN e1
        have y2 := g0.cellN e2
        have y3 := g0.cellN e3
        have y4 := g0.cellN e4
        have y5 := g0.cellN e5
        have y6 := g0.cellN e6
        obtain ⟨E, hE⟩ : ∃ E, txA txS x kx 1 = E := ⟨_, rfl⟩
        have hEl : E.length ≤ (Ac ++ stT txS (.cons ⟨6, name⟩ (.cons x kx .nil) b' l' .nil) n).length := by
          rw [← hE, txA_one]
          simp [stT, txF, Exs.len]
          try split
          all_goals (try simp only [List.length_append, List.length_cons, List.length_nil])
          all_goals omega
        have ke := X.at_any x kx 1 aok capk _ E o1 o2 o3 o4 (hk.keep g0) hE (by omega)
        have hEH : Hidden (txA txS x kx 1 = E) := hE
        clear hE e0 e1 e2 e3 e4 e5 e6
        obtain ⟨S1, hS1⟩ : ∃ S, P ++ [115, 104, 111, 119, 32] = S := ⟨_, rfl⟩
        obtain ⟨S2, hS2⟩ : ∃ S, S1 ++ E = S := ⟨_, rfl⟩
        obtain ⟨S3, hS3⟩ : ∃ S, S2 ++ [59, 10] = S := ⟨_, rfl⟩
        have lenS : S3.length ≤ 140737488355328 := by rw [← hS3, ← hS2, ← hS1]; simp only [List.length_append, List.length_cons, List.length_nil]; rw [← (show _ = E from hEH), ← (show _ = P from hPH)] ; have hh := hT1l; simp [stT, txF, txA_one] at hh ⊢; omega
        have cS1 := fun w => X.catv P [115, 104, 111, 119, 32] S1 hS1 (by have := lenS; rw [← hS3, ← hS2] at this; simp only [List.length_append] at this; omega) w
        have cS2 := fun w => X.catv S1 E S2 hS2 (by have := lenS; rw [← hS3] at this; simp only [List.length_append] at this; omega) w
        have cS3 := fun w => X.catv S2 [59, 10] S3 hS3 (by have := lenS; omega) w
        have HS1 : Hidden (_ = S1) := hS1
        have HS2 : Hidden (_ = S2) := hS2
        have HS3 : Hidden (_ = S3) := hS3
        clear hS1 hS2 hS3 lenS
        have hS : Hidden (S3 = stT txS (.cons ⟨6, name⟩ (.cons x kx .nil) b' l' .nil) n) := by show _ = _; rw [← (show _ = S3 from HS3), ← (show _ = S2 from HS2), ← (show _ = S1 from HS1), ← (show _ = E from hEH), ← (show _ = P from hPH)]; simp [stT, txF, txA_one]
        obtain ⟨Z2, hZ2⟩ : ∃ Zn, Hidden (Zc ++ S3 = Zn) := ⟨_, (rfl : Zc ++ S3 = _)⟩
        have lZ2 : Z2.length ≤ 140737488355328 := by rw [← (show _ = Z2 from hZ2), (show S3 = _ from hS)]; have := hT1l; simp only [List.length_append] at this ⊢; omega
        have zZ2 : Hidden (Zo (Ac ++ stT txS (.cons ⟨6, name⟩ (.cons x kx .nil) b' l' .nil) n) Z2) := by rw [← (show _ = Z2 from hZ2), ← (show S3 = _ from hS)]; exact hzc.app _
        clear hS hT1l hEl
        go_wp2_with fail
        go_at_call 44
        refine (kp _).mono ?_
        rintro ee wp ⟨rfl, hwp⟩
        have hwp := hwp.symm
        subst hwp
        obtain ⟨c0, c1, c2, c3, c4⟩ := st_box hbx
        go_wp2_with fail
        go_at_call 43
        refine ke.mono ?_
        rintro ee w1 ⟨rfl, f1⟩
        have hb1 := f1.heap hbx (fun f => f)
        obtain ⟨c0, c1, c2, c3, c4⟩ := st_box hb1
        have how1 := how.quiet (f0.same f1)
        go_wp2_with (at_builtin; go_must (refine wpList_by rfl _ _ rfl w0 B _ Zc S3 Z2 rfl rfl how1 hZ2 lZ2 ?_); intro aon capn w2 hcn hmn how2 fn)
        go_roundg r'.len
        case measure =>
          have : gk = r'.len + 1 := hgkH
          omega
        case rel => exact finH Z2 _ _ how2 zZ2 (by_then (f0.same f1) fn)
      by_cases k7 : kd = 7
      · subst k7
        have hel : e'.len = 1 := by simp at hf; omega
        clear hf
        obtain ⟨x, kx, bx, ofx, aok, capk, rfl, rfl, o1, o2, o3, o4, hk, e0, e1, e2, e3, e4, e5, e6⟩ := one_ex hL1 s1 a5 hel
        clear hel
        simp only [Exs.len, Nat.zero_add] at hbx f0 d2 m1'
        have g0 := how.fr.same f0
        have y0 := g0.cellN e0
        have y1 := g0.cellN e1
        have y2 := g0.cellN e2
        have y3 := g0.cellN e3
        have y4 := g0.cellN e4
        have y5 := g0.cellN e5
        have y6 := g0.cellN e6
        obtain ⟨E, hE⟩ : ∃ E, txA txS x kx 1 = E := ⟨_, rfl⟩
        have hEl : E.length ≤ (Ac ++ stT txS (.cons ⟨7, name⟩ (.cons x kx .nil) b' l' .nil) n).length := by
          rw [← hE, txA_one]
          simp [stT, txF, Exs.len]
          try split
          all_goals (try simp only [List.length_append, List.length_cons, List.length_nil])
          all_goals omega
        have ke := X.at_any x kx 1 aok capk _ E o1 o2 o3 o4 (hk.keep g0) hE (by omega)
        have hEH : Hidden (txA txS x kx 1 = E) := hE
        clear hE e0 e1 e2 e3 e4 e5 e6
        obtain ⟨S1, hS1⟩ : ∃ S, P ++ [102, 97, 105, 108, 32] = S := ⟨_, rfl⟩
        obtain ⟨S2, hS2⟩ : ∃ S, S1 ++ E = S := ⟨_, rfl⟩
        obtain ⟨S3, hS3⟩ : ∃ S, S2 ++ [59, 10] = S := ⟨_, rfl⟩
        have lenS : S3.length ≤ 140737488355328 := by rw [← hS3, ← hS2, ← hS1]; simp only [List.length_append, List.length_cons, List.length_nil]; rw [← (show _ = E from hEH), ← (show _ = P from hPH)] ; have hh := hT1l; simp [stT, txF, txA_one] at hh ⊢; omega
        have cS1 := fun w => X.catv P [102, 97, 105, 108, 32] S1 hS1 (by have := lenS; rw [← hS3, ← hS2] at this; simp only [List.length_append] at this; omega) w
        have cS2 := fun w => X.catv S1 E S2 hS2 (by have := lenS; rw [← hS3] at this; simp only [List.length_append] at this; omega) w
        have cS3 := fun w => X.catv S2 [59, 10] S3 hS3 (by have := lenS; omega) w
        have HS1 : Hidden (_ = S1) := hS1
        have HS2 : Hidden (_ = S2) := hS2
        have HS3 : Hidden (_ = S3) := hS3
        clear hS1 hS2 hS3 lenS
        have hS : Hidden (S3 = stT txS (.cons ⟨7, name⟩ (.cons x kx .nil) b' l' .nil) n) := by show _ = _; rw [← (show _ = S3 from HS3), ← (show _ = S2 from HS2), ← (show _ = S1 from HS1), ← (show _ = E from hEH), ← (show _ = P from hPH)]; simp [stT, txF, txA_one]
        obtain ⟨Z2, hZ2⟩ : ∃ Zn, Hidden (Zc ++ S3 = Zn) := ⟨_, (rfl : Zc ++ S3 = _)⟩
        have lZ2 : Z2.length ≤ 140737488355328 := by rw [← (show _ = Z2 from hZ2), (show S3 = _ from hS)]; have := hT1l; simp only [List.length_append] at this ⊢; omega
        have zZ2 : Hidden (Zo (Ac ++ stT txS (.cons ⟨7, name⟩ (.cons x kx .nil) b' l' .nil) n) Z2) := by rw [← (show _ = Z2 from hZ2), ← (show S3 = _ from hS)]; exact hzc.app _
        clear hS hT1l hEl
        go_wp2_with fail
        go_at_call 44
        refine (kp _).mono ?_
        rintro ee wp ⟨rfl, hwp⟩
        have hwp := hwp.symm
        subst hwp
        obtain ⟨c0, c1, c2, c3, c4⟩ := st_box hbx
        go_wp2_with fail
        go_at_call 43
        refine ke.mono ?_
        rintro ee w1 ⟨rfl, f1⟩
        have hb1 := f1.heap hbx (fun f => f)
        obtain ⟨c0, c1, c2, c3, c4⟩ := st_box hb1
        have how1 := how.quiet (f0.same f1)
        go_wp2_with (at_builtin; go_must (refine wpList_by rfl _ _ rfl w0 B _ Zc S3 Z2 rfl rfl how1 hZ2 lZ2 ?_); intro aon capn w2 hcn hmn how2 fn)
        go_roundg r'.len
        case measure =>
          have : gk = r'.len + 1 := hgkH
          omega
        case rel => exact finH Z2 _ _ how2 zZ2 (by_then (f0.same f1) fn)
      by_cases k9 : kd = 9
      · subst k9
        have hel : e'.len = 1 := by simp at hf; omega
        clear hf
        obtain ⟨x, kx, bx, ofx, aok, capk, rfl, rfl, o1, o2, o3, o4, hk, e0, e1, e2, e3, e4, e5, e6⟩ := one_ex hL1 s1 a5 hel
        clear hel
        simp only [Exs.len, Nat.zero_add] at hbx f0 d2 m1'
        have g0 := how.fr.same f0
        have y0 := g0.cellN e0
        have y1 := g0.cellN e1
        have y2 := g0.cellN e2
        have y3 := g0.cellN e3
        have y4 := g0.cellN e4
        have y5 := g0.cellN e5
        have y6 := g0.cellN e6
        obtain ⟨E, hE⟩ : ∃ E, txA txS x kx 1 = E := ⟨_, rfl⟩
        have hEl : E.length ≤ (Ac ++ stT txS (.cons ⟨9, name⟩ (.cons x kx .nil) b' l' .nil) n).length := by
          rw [← hE, txA_one]
          simp [stT, txF, Exs.len]
          try split
          all_goals (try simp only [List.length_append, List.length_cons, List.length_nil])
          all_goals omega
        have ke := X.at_any x kx 1 aok capk _ E o1 o2 o3 o4 (hk.keep g0) hE (by omega)
        have hEH : Hidden (txA txS x kx 1 = E) := hE
        clear hE e0 e1 e2 e3 e4 e5 e6
        obtain ⟨S1, hS1⟩ : ∃ S, P ++ E = S := ⟨_, rfl⟩
        obtain ⟨S2, hS2⟩ : ∃ S, S1 ++ [59, 10] = S := ⟨_, rfl⟩
        have lenS : S2.length ≤ 140737488355328 := by rw [← hS2, ← hS1]; simp only [List.length_append, List.length_cons, List.length_nil]; rw [← (show _ = E from hEH), ← (show _ = P from hPH)] ; have hh := hT1l; simp [stT, txF, txA_one] at hh ⊢; omega
        have cS1 := fun w => X.catv P E S1 hS1 (by have := lenS; rw [← hS2] at this; simp only [List.length_append] at this; omega) w
        have cS2 := fun w => X.catv S1 [59, 10] S2 hS2 (by have := lenS; omega) w
        have HS1 : Hidden (_ = S1) := hS1
        have HS2 : Hidden (_ = S2) := hS2
        clear hS1 hS2 lenS
        have hS : Hidden (S2 = stT txS (.cons ⟨9, name⟩ (.cons x kx .nil) b' l' .nil) n) := by show _ = _; rw [← (show _ = S2 from HS2), ← (show _ = S1 from HS1), ← (show _ = E from hEH), ← (show _ = P from hPH)]; simp [stT, txF, txA_one]
        obtain ⟨Z2, hZ2⟩ : ∃ Zn, Hidden (Zc ++ S2 = Zn) := ⟨_, (rfl : Zc ++ S2 = _)⟩
        have lZ2 : Z2.length ≤ 140737488355328 := by rw [← (show _ = Z2 from hZ2), (show S2 = _ from hS)]; have := hT1l; simp only [List.length_append] at this ⊢; omega
        have zZ2 : Hidden (Zo (Ac ++ stT txS (.cons ⟨9, name⟩ (.cons x kx .nil) b' l' .nil) n) Z2) := by rw [← (show _ = Z2 from hZ2), ← (show S2 = _ from hS)]; exact hzc.app _
        clear hS hT1l hEl
        go_wp2_with fail
        go_at_call 44
        refine (kp _).mono ?_
        rintro ee wp ⟨rfl, hwp⟩
        have hwp := hwp.symm
        subst hwp
        obtain ⟨c0, c1, c2, c3, c4⟩ := st_box hbx
        go_wp2_with fail
        go_at_call 43
        refine ke.mono ?_
        rintro ee w1 ⟨rfl, f1⟩
        have hb1 := f1.heap hbx (fun f => f)
        obtain ⟨c0, c1, c2, c3, c4⟩ := st_box hb1
        have how1 := how.quiet (f0.same f1)
        go_wp2_with (at_builtin; go_must (refine wpList_by rfl _ _ rfl w0 B _ Zc S2 Z2 rfl rfl how1 hZ2 lZ2 ?_); intro aon capn w2 hcn hmn how2 fn)
        go_roundg r'.len
        case measure =>
          have : gk = r'.len + 1 := hgkH
          omega
        case rel => exact finH Z2 _ _ how2 zZ2 (by_then (f0.same f1) fn)
      by_cases k5 : kd = 5
      · subst k5
        by_cases hel0 : e'.len = 0
        · have he : e' = .nil := by
            cases e' with
            | nil => rfl
            | cons a b c => simp [Exs.len] at hel0
          subst he
          clear hf hel0
          simp only [Exs.len] at hbx f0 d2 m1'
          obtain ⟨S1, hS1⟩ : ∃ S, P ++ [114, 101, 116, 117, 114, 110] = S := ⟨_, rfl⟩
          obtain ⟨S2, hS2⟩ : ∃ S, S1 ++ [] = S := ⟨_, rfl⟩
          obtain ⟨S3, hS3⟩ : ∃ S, S2 ++ [59, 10] = S := ⟨_, rfl⟩
          have lenS : S3.length ≤ 140737488355328 := by rw [← hS3, ← hS2, ← hS1]; simp only [List.length_append, List.length_cons, List.length_nil]; rw [← (show _ = P from hPH)]; have hh := hT1l; simp [stT, txF, Exs.len] at hh ⊢; omega
          have cS1 := fun w => X.catv P [114, 101, 116, 117, 114, 110] S1 hS1 (by have := lenS; rw [← hS3, ← hS2] at this; simp only [List.length_append] at this; omega) w
          have cS2 := fun w => X.catv S1 [] S2 hS2 (by have := lenS; rw [← hS3] at this; simp only [List.length_append] at this; omega) w
          have cS3 := fun w => X.catv S2 [59, 10] S3 hS3 (by have := lenS; omega) w
          have HS1 : Hidden (_ = S1) := hS1
          have HS2 : Hidden (_ = S2) := hS2
          have HS3 : Hidden (_ = S3) := hS3
          clear hS1 hS2 hS3 lenS
          have hS : Hidden (S3 = stT txS (.cons ⟨5, name⟩ .nil b' l' .nil) n) := by show _ = _; rw [← (show _ = S3 from HS3), ← (show _ = S2 from HS2), ← (show _ = S1 from HS1), ← (show _ = P from hPH)]; simp [stT, txF, Exs.len]
          obtain ⟨Z2, hZ2⟩ : ∃ Zn, Hidden (Zc ++ S3 = Zn) := ⟨_, (rfl : Zc ++ S3 = _)⟩
          have lZ2 : Z2.length ≤ 140737488355328 := by rw [← (show _ = Z2 from hZ2), (show S3 = _ from hS)]; have := hT1l; simp only [List.length_append] at this ⊢; omega
          have zZ2 : Hidden (Zo (Ac ++ stT txS (.cons ⟨5, name⟩ .nil b' l' .nil) n) Z2) := by rw [← (show _ = Z2 from hZ2), ← (show S3 = _ from hS)]; exact hzc.app _
          clear hS hT1l
          go_wp2_with fail
          go_at_call 44
          refine (kp _).mono ?_
          rintro ee wp ⟨rfl, hwp⟩
          have hwp := hwp.symm
          subst hwp
          obtain ⟨c0, c1, c2, c3, c4⟩ := st_box hbx
          have hb1 := hbx
          have how1 := how.quiet f0
          go_wp2_with (at_builtin; go_must (refine wpList_by rfl _ _ rfl w0 B _ Zc S3 Z2 rfl rfl how1 hZ2 lZ2 ?_); intro aon capn w2 hcn hmn how2 fn)
          go_roundg r'.len
          case measure =>
            have : gk = r'.len + 1 := hgkH
            omega
          case rel => exact finH Z2 _ _ how2 zZ2 (by_then f0 fn)
        · have hel1 : e'.len = 1 := by simp at hf; omega
          clear hel0
          have hel := hel1
          clear hel1
          clear hf
          obtain ⟨x, kx, bx, ofx, aok, capk, rfl, rfl, o1, o2, o3, o4, hk, e0, e1, e2, e3, e4, e5, e6⟩ := one_ex hL1 s1 a5 hel
          clear hel
          simp only [Exs.len, Nat.zero_add] at hbx f0 d2 m1'
          have g0 := how.fr.same f0
          have y0 := g0.cellN e0
          have y1 := g0.cellN e1
          have y2 := g0.cellN e2
          have y3 := g0.cellN e3
          have y4 := g0.cellN e4
          have y5 := g0.cellN e5
          have y6 := g0.cellN e6
          obtain ⟨E, hE⟩ : ∃ E, txA txS x kx 1 = E := ⟨_, rfl⟩
          have hEl : E.length ≤ (Ac ++ stT txS (.cons ⟨5, name⟩ (.cons x kx .nil) b' l' .nil) n).length := by
            rw [← hE, txA_one]
            simp [stT, txF, Exs.len]
            try split
            all_goals (try simp only [List.length_append, List.length_cons, List.length_nil])
            all_goals omega
          have ke := X.at_any x kx 1 aok capk _ E o1 o2 o3 o4 (hk.keep g0) hE (by omega)
          have hEH : Hidden (txA txS x kx 1 = E) := hE
          clear hE e0 e1 e2 e3 e4 e5 e6
          obtain ⟨E9, hE9⟩ : ∃ S, [32] ++ E = S := ⟨_, rfl⟩
          have cE9 := fun w => X.catv [32] E E9 hE9 (by rw [← hE9]; simp only [List.length_append, List.length_cons, List.length_nil]; omega) w
          have HE9 : Hidden ([32] ++ E = E9) := hE9
          clear hE9
          obtain ⟨S1, hS1⟩ : ∃ S, P ++ [114, 101, 116, 117, 114, 110] = S := ⟨_, rfl⟩
          obtain ⟨S2, hS2⟩ : ∃ S, S1 ++ E9 = S := ⟨_, rfl⟩
          obtain ⟨S3, hS3⟩ : ∃ S, S2 ++ [59, 10] = S := ⟨_, rfl⟩
          have lenS : S3.length ≤ 140737488355328 := by rw [← hS3, ← hS2, ← hS1]; simp only [List.length_append, List.length_cons, List.length_nil]; rw [← (show _ = E9 from HE9), ← (show _ = E from hEH), ← (show _ = P from hPH)] ; have hh := hT1l; simp [stT, txF, txA_one, Exs.len] at hh ⊢; omega
          have cS1 := fun w => X.catv P [114, 101, 116, 117, 114, 110] S1 hS1 (by have := lenS; rw [← hS3, ← hS2] at this; simp only [List.length_append] at this; omega) w
          have cS2 := fun w => X.catv S1 E9 S2 hS2 (by have := lenS; rw [← hS3] at this; simp only [List.length_append] at this; omega) w
          have cS3 := fun w => X.catv S2 [59, 10] S3 hS3 (by have := lenS; omega) w
          have HS1 : Hidden (_ = S1) := hS1
          have HS2 : Hidden (_ = S2) := hS2
          have HS3 : Hidden (_ = S3) := hS3
          clear hS1 hS2 hS3 lenS
          have hS : Hidden (S3 = stT txS (.cons ⟨5, name⟩ (.cons x kx .nil) b' l' .nil) n) := by show _ = _; rw [← (show _ = S3 from HS3), ← (show _ = S2 from HS2), ← (show _ = S1 from HS1), ← (show _ = E9 from HE9), ← (show _ = E from hEH), ← (show _ = P from hPH)]; simp [stT, txF, txA_one, Exs.len]
          obtain ⟨Z2, hZ2⟩ : ∃ Zn, Hidden (Zc ++ S3 = Zn) := ⟨_, (rfl : Zc ++ S3 = _)⟩
          have lZ2 : Z2.length ≤ 140737488355328 := by rw [← (show _ = Z2 from hZ2), (show S3 = _ from hS)]; have := hT1l; simp only [List.length_append] at this ⊢; omega
          have zZ2 : Hidden (Zo (Ac ++ stT txS (.cons ⟨5, name⟩ (.cons x kx .nil) b' l' .nil) n) Z2) := by rw [← (show _ = Z2 from hZ2), ← (show S3 = _ from hS)]; exact hzc.app _
          clear hS hT1l hEl
          go_wp2_with fail
          go_at_call 44
          refine (kp _).mono ?_
          rintro ee wp ⟨rfl, hwp⟩
          have hwp := hwp.symm
          subst hwp
          obtain ⟨c0, c1, c2, c3, c4⟩ := st_box hbx
          go_wp2_with fail
          go_at_call 43
          refine ke.mono ?_
          rintro ee w1 ⟨rfl, f1⟩
          have hb1 := f1.heap hbx (fun f => f)
          obtain ⟨c0, c1, c2, c3, c4⟩ := st_box hb1
          have how1 := how.quiet (f0.same f1)
          go_wp2_with (at_builtin; go_must (refine wpList_by rfl _ _ rfl w0 B _ Zc S3 Z2 rfl rfl how1 hZ2 lZ2 ?_); intro aon capn w2 hcn hmn how2 fn)
          go_roundg r'.len
          case measure =>
            have : gk = r'.len + 1 := hgkH
            omega
          case rel => exact finH Z2 _ _ how2 zZ2 (by_then (f0.same f1) fn)
      by_cases k4 : kd = 4
      · subst k4
        have hel : e'.len = 1 := by simp at hf; omega
        clear hf
        obtain ⟨x, kx, bx, ofx, aok, capk, rfl, rfl, o1, o2, o3, o4, hk, e0, e1, e2, e3, e4, e5, e6⟩ := one_ex hL1 s1 a5 hel
        clear hel
        simp only [Exs.len, Nat.zero_add] at hbx f0 d2 m1'
        have g0 := how.fr.same f0
        have y0 := g0.cellN e0
        have y1 := g0.cellN e1
        have y2 := g0.cellN e2
        have y3 := g0.cellN e3
        have y4 := g0.cellN e4
        have y5 := g0.cellN e5
        have y6 := g0.cellN e6
        obtain ⟨E, hE⟩ : ∃ E, txA txS x kx 1 = E := ⟨_, rfl⟩
        have hEl : E.length ≤ (Ac ++ stT txS (.cons ⟨4, name⟩ (.cons x kx .nil) b' l' .nil) n).length := by
          rw [← hE, txA_one]
          simp [stT, txF, Exs.len]
          try split
          all_goals (try simp only [List.length_append, List.length_cons, List.length_nil])
          all_goals omega
        have ke := X.at_any x kx 1 aok capk _ E o1 o2 o3 o4 (hk.keep g0) hE (by omega)
        have hEH : Hidden (txA txS x kx 1 = E) := hE
        clear hE e0 e1 e2 e3 e4 e5 e6
        obtain ⟨S1, hS1⟩ : ∃ S, P ++ [119, 104, 105, 108, 101, 32] = S := ⟨_, rfl⟩
        obtain ⟨S2, hS2⟩ : ∃ S, S1 ++ E = S := ⟨_, rfl⟩
        obtain ⟨S3, hS3⟩ : ∃ S, S2 ++ [32, 123, 10] = S := ⟨_, rfl⟩
        have lenS : S3.length ≤ 140737488355328 := by rw [← hS3, ← hS2, ← hS1]; simp only [List.length_append, List.length_cons, List.length_nil]; rw [← (show _ = E from hEH), ← (show _ = P from hPH)] ; have hh := hT1l; simp [stT, txF, txA_one, Exs.len] at hh ⊢; omega
        have cS1 := fun w => X.catv P [119, 104, 105, 108, 101, 32] S1 hS1 (by have := lenS; rw [← hS3, ← hS2] at this; simp only [List.length_append] at this; omega) w
        have cS2 := fun w => X.catv S1 E S2 hS2 (by have := lenS; rw [← hS3] at this; simp only [List.length_append] at this; omega) w
        have cS3 := fun w => X.catv S2 [32, 123, 10] S3 hS3 (by have := lenS; omega) w
        have HS1 : Hidden (_ = S1) := hS1
        have HS2 : Hidden (_ = S2) := hS2
        have HS3 : Hidden (_ = S3) := hS3
        clear hS1 hS2 hS3 lenS
        obtain ⟨Q1, hQ1⟩ : ∃ S, P ++ [125, 10] = S := ⟨_, rfl⟩
        have lenQ : Q1.length ≤ 140737488355328 := by rw [← hQ1]; simp only [List.length_append, List.length_cons, List.length_nil]; omega
        have cQ1 := fun w => X.catv P [125, 10] Q1 hQ1 (by have := lenQ; omega) w
        have HQ1 : Hidden (_ = Q1) := hQ1
        clear hQ1 lenQ
        obtain ⟨A2, hA2'⟩ : ∃ A9, Ac ++ S3 = A9 := ⟨_, rfl⟩
        have hA2 : Hidden (Ac ++ S3 = A2) := hA2'
        clear hA2'
        obtain ⟨T3, hT3'⟩ : ∃ A9, A2 ++ stT txS b' (n + 1) = A9 := ⟨_, rfl⟩
        have hT3 : Hidden (A2 ++ stT txS b' (n + 1) = T3) := hT3'
        clear hT3'
        have hS : Hidden (T3 ++ Q1 = Ac ++ stT txS (.cons ⟨4, name⟩ (.cons x kx .nil) b' l' .nil) n) := by show _ = _; rw [← (show _ = T3 from hT3), ← (show _ = A2 from hA2), ← (show _ = Q1 from HQ1), ← (show _ = S3 from HS3), ← (show _ = S2 from HS2), ← (show _ = S1 from HS1), ← (show _ = E from hEH), ← (show _ = P from hPH)]; simp [stT, txF, txA_one, Exs.len]
        have lT3 : T3.length ≤ 140737488355328 := by have h9 := hT1l; rw [← (show _ = Ac ++ _ from hS), List.length_append] at h9; omega
        have lA2 : A2.length ≤ 140737488355328 := app_le (show _ = T3 from hT3) lT3
        obtain ⟨Z2, hZ2⟩ : ∃ Zn, Hidden (Zc ++ S3 = Zn) := ⟨_, (rfl : Zc ++ S3 = _)⟩
        have zZ2 : Zo A2 Z2 := by rw [← (show _ = Z2 from hZ2), ← (show _ = A2 from hA2)]; exact hzc.app _
        have lZ2 : Z2.length ≤ 140737488355328 := by have := zZ2.2.2; omega
        have lQ : (T3 ++ Q1).length ≤ 140737488355328 := by rw [show T3 ++ Q1 = _ from hS]; exact hT1l
        clear hT1l hEl
        go_wp2_with fail
        go_at_call 44
        refine (kp _).mono ?_
        rintro ee wp ⟨rfl, hwp⟩
        have hwp := hwp.symm
        subst hwp
        obtain ⟨c0, c1, c2, c3, c4⟩ := st_box hbx
        go_wp2_with fail
        go_at_call 43
        refine ke.mono ?_
        rintro ee w1 ⟨rfl, f1⟩
        have hb1 := f1.heap hbx (fun f => f)
        obtain ⟨c0, c1, c2, c3, c4⟩ := st_box hb1
        have how1 := how.quiet (f0.same f1)
        go_wp2_with (at_builtin; go_must (refine wpList_by rfl _ _ rfl w0 B _ Zc S3 Z2 rfl rfl how1 hZ2 lZ2 ?_); intro aon capn w2 hcn hmn how2 fn; have hb2 := by_keep fn hb1 (by decide); obtain ⟨n0, n1, n2, n3, n4⟩ := st_box hb2)
        have kb := hB rfl ((n : Int) + 1) (by omega) ao2 cap2 w0 w2 B _ Z2 A2 T3 hL2 how2 zZ2 hT3 lT3
        go_at_call 20
        refine kb.mono ?_
        rintro ee w3 ⟨v3, Z3, rfl, how3, z3, f3⟩
        obtain ⟨aov, capv, rfl, hv1, hv2⟩ := how3.shape
        have hb3 := by_keep f3 hb2 (by decide)
        obtain ⟨c0, c1, c2, c3, c4⟩ := st_box hb3
        obtain ⟨Z6, hZ6⟩ : ∃ Zn, Hidden (Z3 ++ Q1 = Zn) := ⟨_, (rfl : Z3 ++ Q1 = _)⟩
        have zZ6 : Hidden (Zo (Ac ++ stT txS (.cons ⟨4, name⟩ (.cons x kx .nil) b' l' .nil) n) Z6) := by rw [← (show _ = Z6 from hZ6), ← (show _ = Ac ++ _ from hS)]; exact z3.app _
        have lZ6 : Z6.length ≤ 140737488355328 := by rw [← (show _ = Z6 from hZ6)]; have := z3.2.2; have h9 := lQ; rw [List.length_append] at h9 ⊢; omega
        clear hS
        go_wp2_with (at_builtin; go_must (refine wpList_by rfl _ _ rfl w0 B _ Z3 Q1 Z6 rfl rfl how3 hZ6 lZ6 ?_); intro aoz capz w6 hcz hmz how6 f6)
        go_roundg r'.len
        case measure =>
          have : gk = r'.len + 1 := hgkH
          omega
        case rel => exact finH Z6 _ _ how6 zZ6 (by_trans (by_then (f0.same f1) (by_trans fn f3)) f6)
      by_cases k3 : kd = 3
      · subst k3
        by_cases hz : 0 < l'.len
        · have hz := hz
          have hel : e'.len = 1 := by simp at hf; omega
          clear hf
          obtain ⟨x, kx, bx, ofx, aok, capk, rfl, rfl, o1, o2, o3, o4, hk, e0, e1, e2, e3, e4, e5, e6⟩ := one_ex hL1 s1 a5 hel
          clear hel
          simp only [Exs.len, Nat.zero_add] at hbx f0 d2 m1'
          have g0 := how.fr.same f0
          have y0 := g0.cellN e0
          have y1 := g0.cellN e1
          have y2 := g0.cellN e2
          have y3 := g0.cellN e3
          have y4 := g0.cellN e4
          have y5 := g0.cellN e5
          have y6 := g0.cellN e6
          obtain ⟨E, hE⟩ : ∃ E, txA txS x kx 1 = E := ⟨_, rfl⟩
          have hEl : E.length ≤ (Ac ++ stT txS (.cons ⟨3, name⟩ (.cons x kx .nil) b' l' .nil) n).length := by
            rw [← hE, txA_one]
            simp [stT, txF, Exs.len]
            try split
            all_goals (try simp only [List.length_append, List.length_cons, List.length_nil])
            all_goals omega
          have ke := X.at_any x kx 1 aok capk _ E o1 o2 o3 o4 (hk.keep g0) hE (by omega)
          have hEH : Hidden (txA txS x kx 1 = E) := hE
          clear hE e0 e1 e2 e3 e4 e5 e6
          obtain ⟨S1, hS1⟩ : ∃ S, P ++ [105, 102, 32] = S := ⟨_, rfl⟩
          obtain ⟨S2, hS2⟩ : ∃ S, S1 ++ E = S := ⟨_, rfl⟩
          obtain ⟨S3, hS3⟩ : ∃ S, S2 ++ [32, 123, 10] = S := ⟨_, rfl⟩
          have lenS : S3.length ≤ 140737488355328 := by rw [← hS3, ← hS2, ← hS1]; simp only [List.length_append, List.length_cons, List.length_nil]; rw [← (show _ = E from hEH), ← (show _ = P from hPH)] ; have hh := hT1l; simp [stT, txF, txA_one, Exs.len] at hh ⊢; omega
          have cS1 := fun w => X.catv P [105, 102, 32] S1 hS1 (by have := lenS; rw [← hS3, ← hS2] at this; simp only [List.length_append] at this; omega) w
          have cS2 := fun w => X.catv S1 E S2 hS2 (by have := lenS; rw [← hS3] at this; simp only [List.length_append] at this; omega) w
          have cS3 := fun w => X.catv S2 [32, 123, 10] S3 hS3 (by have := lenS; omega) w
          have HS1 : Hidden (_ = S1) := hS1
          have HS2 : Hidden (_ = S2) := hS2
          have HS3 : Hidden (_ = S3) := hS3
          clear hS1 hS2 hS3 lenS
          obtain ⟨Q1, hQ1⟩ : ∃ S, P ++ [125, 10] = S := ⟨_, rfl⟩
          have lenQ : Q1.length ≤ 140737488355328 := by rw [← hQ1]; simp only [List.length_append, List.length_cons, List.length_nil]; omega
          have cQ1 := fun w => X.catv P [125, 10] Q1 hQ1 (by have := lenQ; omega) w
          have HQ1 : Hidden (_ = Q1) := hQ1
          clear hQ1 lenQ
          obtain ⟨M1, hM1⟩ : ∃ S, P ++ [125, 32, 101, 108, 115, 101, 32, 123, 10] = S := ⟨_, rfl⟩
          have lenM : M1.length ≤ 140737488355328 := by rw [← hM1]; simp only [List.length_append, List.length_cons, List.length_nil]; omega
          have cM1 := fun w => X.catv P [125, 32, 101, 108, 115, 101, 32, 123, 10] M1 hM1 (by have := lenM; omega) w
          have HM1 : Hidden (_ = M1) := hM1
          clear hM1 lenM
          obtain ⟨A2, hA2'⟩ : ∃ A9, Ac ++ S3 = A9 := ⟨_, rfl⟩
          have hA2 : Hidden (Ac ++ S3 = A2) := hA2'
          clear hA2'
          obtain ⟨T3, hT3'⟩ : ∃ A9, A2 ++ stT txS b' (n + 1) = A9 := ⟨_, rfl⟩
          have hT3 : Hidden (A2 ++ stT txS b' (n + 1) = T3) := hT3'
          clear hT3'
          obtain ⟨A4, hA4'⟩ : ∃ A9, T3 ++ M1 = A9 := ⟨_, rfl⟩
          have hA4 : Hidden (T3 ++ M1 = A4) := hA4'
          clear hA4'
          obtain ⟨T5, hT5'⟩ : ∃ A9, A4 ++ stT txS l' (n + 1) = A9 := ⟨_, rfl⟩
          have hT5 : Hidden (A4 ++ stT txS l' (n + 1) = T5) := hT5'
          clear hT5'
          have hS : Hidden (T5 ++ Q1 = Ac ++ stT txS (.cons ⟨3, name⟩ (.cons x kx .nil) b' l' .nil) n) := by show _ = _; rw [← (show _ = T5 from hT5), ← (show _ = A4 from hA4), ← (show _ = T3 from hT3), ← (show _ = A2 from hA2), ← (show _ = Q1 from HQ1), ← (show _ = M1 from HM1), ← (show _ = S3 from HS3), ← (show _ = S2 from HS2), ← (show _ = S1 from HS1), ← (show _ = E from hEH), ← (show _ = P from hPH)]; simp [stT, txF, txA_one, Exs.len, hz]
          have lT5 : T5.length ≤ 140737488355328 := by have h9 := hT1l; rw [← (show _ = Ac ++ _ from hS), List.length_append] at h9; omega
          have lA4 : A4.length ≤ 140737488355328 := app_le (show _ = T5 from hT5) lT5
          have lT3 : T3.length ≤ 140737488355328 := app_le (show _ = A4 from hA4) lA4
          have lA2 : A2.length ≤ 140737488355328 := app_le (show _ = T3 from hT3) lT3
          obtain ⟨Z2, hZ2⟩ : ∃ Zn, Hidden (Zc ++ S3 = Zn) := ⟨_, (rfl : Zc ++ S3 = _)⟩
          have zZ2 : Zo A2 Z2 := by rw [← (show _ = Z2 from hZ2), ← (show _ = A2 from hA2)]; exact hzc.app _
          have lZ2 : Z2.length ≤ 140737488355328 := by have := zZ2.2.2; omega
          have lQ : (T5 ++ Q1).length ≤ 140737488355328 := by rw [show T5 ++ Q1 = _ from hS]; exact hT1l
          clear hT1l hEl
          go_wp2_with fail
          go_at_call 44
          refine (kp _).mono ?_
          rintro ee wp ⟨rfl, hwp⟩
          have hwp := hwp.symm
          subst hwp
          obtain ⟨c0, c1, c2, c3, c4⟩ := st_box hbx
          go_wp2_with fail
          go_at_call 43
          refine ke.mono ?_
          rintro ee w1 ⟨rfl, f1⟩
          have hb1 := f1.heap hbx (fun f => f)
          obtain ⟨c0, c1, c2, c3, c4⟩ := st_box hb1
          have how1 := how.quiet (f0.same f1)
          go_wp2_with (at_builtin; go_must (refine wpList_by rfl _ _ rfl w0 B _ Zc S3 Z2 rfl rfl how1 hZ2 lZ2 ?_); intro aon capn w2 hcn hmn how2 fn; have hb2 := by_keep fn hb1 (by decide); obtain ⟨n0, n1, n2, n3, n4⟩ := st_box hb2)
          have kb := hB rfl ((n : Int) + 1) (by omega) ao2 cap2 w0 w2 B _ Z2 A2 T3 hL2 how2 zZ2 hT3 lT3
          go_at_call 20
          refine kb.mono ?_
          rintro ee w3 ⟨v3, Z3, rfl, how3, z3, f3⟩
          obtain ⟨aov, capv, rfl, hv1, hv2⟩ := how3.shape
          have hb3 := by_keep f3 hb2 (by decide)
          obtain ⟨c0, c1, c2, c3, c4⟩ := st_box hb3
          obtain ⟨Z4, hZ4⟩ : ∃ Zn, Hidden (Z3 ++ M1 = Zn) := ⟨_, (rfl : Z3 ++ M1 = _)⟩
          have zZ4 : Zo A4 Z4 := by rw [← (show _ = Z4 from hZ4), ← (show _ = A4 from hA4)]; exact z3.app _
          have lZ4 : Z4.length ≤ 140737488355328 := by have := zZ4.2.2; omega
          go_wp2_with (at_builtin; go_must (refine wpList_by rfl _ _ rfl w0 B _ Z3 M1 Z4 rfl rfl how3 hZ4 lZ4 ?_); intro aom capm w4 hcm4 hmm4 how4 f4; have hb4 := by_keep f4 hb3 (by decide); obtain ⟨vv0, vv1, vv2, vv3, vv4⟩ := st_box hb4)
          have kl := hL (Or.inr hz) ((n : Int) + 1) (by omega) ao3 cap3 w0 w4 B _ Z4 A4 T5 hL3 how4 zZ4 hT5 lT5
          go_at_call 20
          refine kl.mono ?_
          rintro ee w5 ⟨v5, Z5, rfl, how5, z5, f5⟩
          obtain ⟨aou, capu, rfl, hu1, hu2⟩ := how5.shape
          obtain ⟨Z6, hZ6⟩ : ∃ Zn, Hidden (Z5 ++ Q1 = Zn) := ⟨_, (rfl : Z5 ++ Q1 = _)⟩
          have zZ6 : Hidden (Zo (Ac ++ stT txS (.cons ⟨3, name⟩ (.cons x kx .nil) b' l' .nil) n) Z6) := by rw [← (show _ = Z6 from hZ6), ← (show _ = Ac ++ _ from hS)]; exact z5.app _
          have lZ6 : Z6.length ≤ 140737488355328 := by rw [← (show _ = Z6 from hZ6)]; have := z5.2.2; have h9 := lQ; rw [List.length_append] at h9 ⊢; omega
          clear hS
          go_wp2_with (at_builtin; go_must (refine wpList_by rfl _ _ rfl w0 B _ Z5 Q1 Z6 rfl rfl how5 hZ6 lZ6 ?_); intro aoz capz w6 hcz hmz how6 f6)
          go_roundg r'.len
          case measure =>
            have : gk = r'.len + 1 := hgkH
            omega
          case rel => exact finH Z6 _ _ how6 zZ6 (by_trans (by_then (f0.same f1) (by_trans fn (by_trans f3 (by_trans f4 f5)))) f6)
        · have hz0 : l'.len = 0 := by omega
          rw [hz0] at hbx f0 d4 m3'
          have hz0H : Hidden (l'.len = 0) := hz0
          clear hz0 hz
          have hel : e'.len = 1 := by simp at hf; omega
          clear hf
          obtain ⟨x, kx, bx, ofx, aok, capk, rfl, rfl, o1, o2, o3, o4, hk, e0, e1, e2, e3, e4, e5, e6⟩ := one_ex hL1 s1 a5 hel
          clear hel
          simp only [Exs.len, Nat.zero_add] at hbx f0 d2 m1'
          have g0 := how.fr.same f0
          have y0 := g0.cellN e0
          have y1 := g0.cellN e1
          have y2 := g0.cellN e2
          have y3 := g0.cellN e3
          have y4 := g0.cellN e4
          have y5 := g0.cellN e5
          have y6 := g0.cellN e6
          obtain ⟨E, hE⟩ : ∃ E, txA txS x kx 1 = E := ⟨_, rfl⟩
          have hEl : E.length ≤ (Ac ++ stT txS (.cons ⟨3, name⟩ (.cons x kx .nil) b' l' .nil) n).length := by
            rw [← hE, txA_one]
            simp [stT, txF, Exs.len]
            try split
            all_goals (try simp only [List.length_append, List.length_cons, List.length_nil])
            all_goals omega
          have ke := X.at_any x kx 1 aok capk _ E o1 o2 o3 o4 (hk.keep g0) hE (by omega)
          have hEH : Hidden (txA txS x kx 1 = E) := hE
          clear hE e0 e1 e2 e3 e4 e5 e6
          obtain ⟨S1, hS1⟩ : ∃ S, P ++ [105, 102, 32] = S := ⟨_, rfl⟩
          obtain ⟨S2, hS2⟩ : ∃ S, S1 ++ E = S := ⟨_, rfl⟩
          obtain ⟨S3, hS3⟩ : ∃ S, S2 ++ [32, 123, 10] = S := ⟨_, rfl⟩
          have lenS : S3.length ≤ 140737488355328 := by rw [← hS3, ← hS2, ← hS1]; simp only [List.length_append, List.length_cons, List.length_nil]; rw [← (show _ = E from hEH), ← (show _ = P from hPH)] ; have hh := hT1l; simp [stT, txF, txA_one, Exs.len] at hh ⊢; omega
          have cS1 := fun w => X.catv P [105, 102, 32] S1 hS1 (by have := lenS; rw [← hS3, ← hS2] at this; simp only [List.length_append] at this; omega) w
          have cS2 := fun w => X.catv S1 E S2 hS2 (by have := lenS; rw [← hS3] at this; simp only [List.length_append] at this; omega) w
          have cS3 := fun w => X.catv S2 [32, 123, 10] S3 hS3 (by have := lenS; omega) w
          have HS1 : Hidden (_ = S1) := hS1
          have HS2 : Hidden (_ = S2) := hS2
          have HS3 : Hidden (_ = S3) := hS3
          clear hS1 hS2 hS3 lenS
          obtain ⟨Q1, hQ1⟩ : ∃ S, P ++ [125, 10] = S := ⟨_, rfl⟩
          have lenQ : Q1.length ≤ 140737488355328 := by rw [← hQ1]; simp only [List.length_append, List.length_cons, List.length_nil]; omega
          have cQ1 := fun w => X.catv P [125, 10] Q1 hQ1 (by have := lenQ; omega) w
          have HQ1 : Hidden (_ = Q1) := hQ1
          clear hQ1 lenQ
          obtain ⟨A2, hA2'⟩ : ∃ A9, Ac ++ S3 = A9 := ⟨_, rfl⟩
          have hA2 : Hidden (Ac ++ S3 = A2) := hA2'
          clear hA2'
          obtain ⟨T3, hT3'⟩ : ∃ A9, A2 ++ stT txS b' (n + 1) = A9 := ⟨_, rfl⟩
          have hT3 : Hidden (A2 ++ stT txS b' (n + 1) = T3) := hT3'
          clear hT3'
          have hS : Hidden (T3 ++ Q1 = Ac ++ stT txS (.cons ⟨3, name⟩ (.cons x kx .nil) b' l' .nil) n) := by show _ = _; rw [← (show _ = T3 from hT3), ← (show _ = A2 from hA2), ← (show _ = Q1 from HQ1), ← (show _ = S3 from HS3), ← (show _ = S2 from HS2), ← (show _ = S1 from HS1), ← (show _ = E from hEH), ← (show _ = P from hPH)]; simp [stT, txF, txA_one, Exs.len, show l'.len = 0 from hz0H]
          have lT3 : T3.length ≤ 140737488355328 := by have h9 := hT1l; rw [← (show _ = Ac ++ _ from hS), List.length_append] at h9; omega
          have lA2 : A2.length ≤ 140737488355328 := app_le (show _ = T3 from hT3) lT3
          obtain ⟨Z2, hZ2⟩ : ∃ Zn, Hidden (Zc ++ S3 = Zn) := ⟨_, (rfl : Zc ++ S3 = _)⟩
          have zZ2 : Zo A2 Z2 := by rw [← (show _ = Z2 from hZ2), ← (show _ = A2 from hA2)]; exact hzc.app _
          have lZ2 : Z2.length ≤ 140737488355328 := by have := zZ2.2.2; omega
          have lQ : (T3 ++ Q1).length ≤ 140737488355328 := by rw [show T3 ++ Q1 = _ from hS]; exact hT1l
          clear hT1l hEl
          go_wp2_with fail
          go_at_call 44
          refine (kp _).mono ?_
          rintro ee wp ⟨rfl, hwp⟩
          have hwp := hwp.symm
          subst hwp
          obtain ⟨c0, c1, c2, c3, c4⟩ := st_box hbx
          go_wp2_with fail
          go_at_call 43
          refine ke.mono ?_
          rintro ee w1 ⟨rfl, f1⟩
          have hb1 := f1.heap hbx (fun f => f)
          obtain ⟨c0, c1, c2, c3, c4⟩ := st_box hb1
          have how1 := how.quiet (f0.same f1)
          go_wp2_with (at_builtin; go_must (refine wpList_by rfl _ _ rfl w0 B _ Zc S3 Z2 rfl rfl how1 hZ2 lZ2 ?_); intro aon capn w2 hcn hmn how2 fn; have hb2 := by_keep fn hb1 (by decide); obtain ⟨n0, n1, n2, n3, n4⟩ := st_box hb2)
          have kb := hB rfl ((n : Int) + 1) (by omega) ao2 cap2 w0 w2 B _ Z2 A2 T3 hL2 how2 zZ2 hT3 lT3
          go_at_call 20
          refine kb.mono ?_
          rintro ee w3 ⟨v3, Z3, rfl, how3, z3, f3⟩
          obtain ⟨aov, capv, rfl, hv1, hv2⟩ := how3.shape
          have hb3 := by_keep f3 hb2 (by decide)
          obtain ⟨c0, c1, c2, c3, c4⟩ := st_box hb3
          obtain ⟨Z6, hZ6⟩ : ∃ Zn, Hidden (Z3 ++ Q1 = Zn) := ⟨_, (rfl : Z3 ++ Q1 = _)⟩
          have zZ6 : Hidden (Zo (Ac ++ stT txS (.cons ⟨3, name⟩ (.cons x kx .nil) b' l' .nil) n) Z6) := by rw [← (show _ = Z6 from hZ6), ← (show _ = Ac ++ _ from hS)]; exact z3.app _
          have lZ6 : Z6.length ≤ 140737488355328 := by rw [← (show _ = Z6 from hZ6)]; have := z3.2.2; have h9 := lQ; rw [List.length_append] at h9 ⊢; omega
          clear hS
          go_wp2_with (at_builtin; go_must (refine wpList_by rfl _ _ rfl w0 B _ Z3 Q1 Z6 rfl rfl how3 hZ6 lZ6 ?_); intro aoz capz w6 hcz hmz how6 f6)
          go_roundg r'.len
          case measure =>
            have : gk = r'.len + 1 := hgkH
            omega
          case rel => exact finH Z6 _ _ how6 zZ6 (by_trans (by_then (f0.same f1) (by_trans fn f3)) f6)
      by_cases k8 : kd = 8
      · subst k8
        have he : e' = .nil := by
          have hel : e'.len = 0 := by simp at hf; exact hf
          cases e' with
          | nil => rfl
          | cons a b c => simp [Exs.len] at hel
        subst he
        clear hf
        simp only [Exs.len] at hbx f0 d2 m1'
        obtain ⟨S1, hS1⟩ : ∃ S, P ++ [116, 114, 121, 32, 123, 10] = S := ⟨_, rfl⟩
        have lenS : S1.length ≤ 140737488355328 := by rw [← hS1]; simp only [List.length_append, List.length_cons, List.length_nil]; rw [← (show _ = P from hPH)] ; have hh := hT1l; simp [stT, txF, txA_one, Exs.len] at hh ⊢; omega
        have cS1 := fun w => X.catv P [116, 114, 121, 32, 123, 10] S1 hS1 (by have := lenS; omega) w
        have HS1 : Hidden (_ = S1) := hS1
        clear hS1 lenS
        obtain ⟨Q1, hQ1⟩ : ∃ S, P ++ [125, 10] = S := ⟨_, rfl⟩
        have lenQ : Q1.length ≤ 140737488355328 := by rw [← hQ1]; simp only [List.length_append, List.length_cons, List.length_nil]; omega
        have cQ1 := fun w => X.catv P [125, 10] Q1 hQ1 (by have := lenQ; omega) w
        have HQ1 : Hidden (_ = Q1) := hQ1
        clear hQ1 lenQ
        obtain ⟨M1, hM1⟩ : ∃ S, P ++ [125, 32, 99, 97, 116, 99, 104, 32] = S := ⟨_, rfl⟩
        obtain ⟨M2, hM2⟩ : ∃ S, M1 ++ name = S := ⟨_, rfl⟩
        obtain ⟨M3, hM3⟩ : ∃ S, M2 ++ [32, 123, 10] = S := ⟨_, rfl⟩
        have lenM : M3.length ≤ 140737488355328 := by rw [← hM3, ← hM2, ← hM1]; simp only [List.length_append, List.length_cons, List.length_nil]; rw [← (show _ = P from hPH)] ; have hh := hT1l; simp [stT, txF, txA_one, Exs.len] at hh ⊢; omega
        have cM1 := fun w => X.catv P [125, 32, 99, 97, 116, 99, 104, 32] M1 hM1 (by have := lenM; rw [← hM3, ← hM2] at this; simp only [List.length_append] at this; omega) w
        have cM2 := fun w => X.catv M1 name M2 hM2 (by have := lenM; rw [← hM3] at this; simp only [List.length_append] at this; omega) w
        have cM3 := fun w => X.catv M2 [32, 123, 10] M3 hM3 (by have := lenM; omega) w
        have HM1 : Hidden (_ = M1) := hM1
        have HM2 : Hidden (_ = M2) := hM2
        have HM3 : Hidden (_ = M3) := hM3
        clear hM1 hM2 hM3 lenM
        obtain ⟨A2, hA2'⟩ : ∃ A9, Ac ++ S1 = A9 := ⟨_, rfl⟩
        have hA2 : Hidden (Ac ++ S1 = A2) := hA2'
        clear hA2'
        obtain ⟨T3, hT3'⟩ : ∃ A9, A2 ++ stT txS b' (n + 1) = A9 := ⟨_, rfl⟩
        have hT3 : Hidden (A2 ++ stT txS b' (n + 1) = T3) := hT3'
        clear hT3'
        obtain ⟨A4, hA4'⟩ : ∃ A9, T3 ++ M3 = A9 := ⟨_, rfl⟩
        have hA4 : Hidden (T3 ++ M3 = A4) := hA4'
        clear hA4'
        obtain ⟨T5, hT5'⟩ : ∃ A9, A4 ++ stT txS l' (n + 1) = A9 := ⟨_, rfl⟩
        have hT5 : Hidden (A4 ++ stT txS l' (n + 1) = T5) := hT5'
        clear hT5'
        have hS : Hidden (T5 ++ Q1 = Ac ++ stT txS (.cons ⟨8, name⟩ .nil b' l' .nil) n) := by show _ = _; rw [← (show _ = T5 from hT5), ← (show _ = A4 from hA4), ← (show _ = T3 from hT3), ← (show _ = A2 from hA2), ← (show _ = Q1 from HQ1), ← (show _ = M3 from HM3), ← (show _ = M2 from HM2), ← (show _ = M1 from HM1), ← (show _ = S1 from HS1), ← (show _ = P from hPH)]; simp [stT, txF, txA_one, Exs.len]
        have lT5 : T5.length ≤ 140737488355328 := by have h9 := hT1l; rw [← (show _ = Ac ++ _ from hS), List.length_append] at h9; omega
        have lA4 : A4.length ≤ 140737488355328 := app_le (show _ = T5 from hT5) lT5
        have lT3 : T3.length ≤ 140737488355328 := app_le (show _ = A4 from hA4) lA4
        have lA2 : A2.length ≤ 140737488355328 := app_le (show _ = T3 from hT3) lT3
        obtain ⟨Z2, hZ2⟩ : ∃ Zn, Hidden (Zc ++ S1 = Zn) := ⟨_, (rfl : Zc ++ S1 = _)⟩
        have zZ2 : Zo A2 Z2 := by rw [← (show _ = Z2 from hZ2), ← (show _ = A2 from hA2)]; exact hzc.app _
        have lZ2 : Z2.length ≤ 140737488355328 := by have := zZ2.2.2; omega
        have lQ : (T5 ++ Q1).length ≤ 140737488355328 := by rw [show T5 ++ Q1 = _ from hS]; exact hT1l
        clear hT1l
        go_wp2_with fail
        go_at_call 44
        refine (kp _).mono ?_
        rintro ee wp ⟨rfl, hwp⟩
        have hwp := hwp.symm
        subst hwp
        obtain ⟨c0, c1, c2, c3, c4⟩ := st_box hbx
        have hb1 := hbx
        have how1 := how.quiet f0
        go_wp2_with (at_builtin; go_must (refine wpList_by rfl _ _ rfl w0 B _ Zc S1 Z2 rfl rfl how1 hZ2 lZ2 ?_); intro aon capn w2 hcn hmn how2 fn; have hb2 := by_keep fn hb1 (by decide); obtain ⟨n0, n1, n2, n3, n4⟩ := st_box hb2)
        have hwr : IntKind.i64.wrap ((n : Int) + 1) = ((n + 1 : Nat) : Int) := by (first | go_num | (simp [IntKind.wrap, IntKind.signed, IntKind.bits]; omega))
        have kb := hB rfl (IntKind.i64.wrap ((n : Int) + 1)) hwr ao2 cap2 w0 w2.drew B _ Z2 A2 T3 hL2 (how2.quiet (Fr.drew _ _)) zZ2 hT3 lT3
        clear hwr
        have hbd := (Fr.drew (fun _ => False) w2).heap hb2 (fun f => f)
        go_region_held3 (fun w' => w'.cell? ⟨wr.heap.size, 1, none⟩ = some (ct name) ∧ w'.cell? ⟨wr.heap.size, 3, none⟩ = some (.slice ao2 b'.len cap2)) (first | (refine ⟨by assumption, by assumption⟩) | go_keep) (first
          | (go_at_call 20; refine kb.mono ?_; rintro ee w3 ⟨v3, Z3, rfl, how3, z3, f3⟩; obtain ⟨aov, capv, rfl, hv1, hv2⟩ := how3.shape; have hb3 := by_keep f3 hbd (by decide); obtain ⟨e0', e1', e2', e3', e4'⟩ := st_box hb3)
          | ((revert z3; intro z3); obtain ⟨Z4, hZ4⟩ : ∃ Zn, Hidden (Z3 ++ M3 = Zn) := ⟨_, (rfl : Z3 ++ M3 = _)⟩; have zZ4 : Zo A4 Z4 := (by rw [← (show _ = Z4 from hZ4), ← (show _ = A4 from hA4)]; exact z3.app _); have lZ4 : Z4.length ≤ 140737488355328 := (by have := zZ4.2.2; omega); refine step_by rfl _ _ rfl w0 B _ Z3 M3 Z4 rfl rfl how3 hZ4 lZ4 ?_; intro aom capm w4 hcm4 hmm4 how4 f4; have hb4 := by_keep f4 hb3 (by decide); obtain ⟨g0', g1', g2', g3', g4'⟩ := st_box hb4))
        obtain ⟨c0, c1, c2, c3, c4⟩ := st_box hb4
        have kl := hL (by simp) ((n : Int) + 1) (by omega) ao3 cap3 w0 w4 B _ Z4 A4 T5 hL3 how4 zZ4 hT5 lT5
        go_wp2_with fail
        go_at_call 20
        refine kl.mono ?_
        rintro ee w5 ⟨v5, Z5, rfl, how5, z5, f5⟩
        obtain ⟨aou, capu, rfl, hu1, hu2⟩ := how5.shape
        obtain ⟨Z6, hZ6⟩ : ∃ Zn, Hidden (Z5 ++ Q1 = Zn) := ⟨_, (rfl : Z5 ++ Q1 = _)⟩
        have zZ6 : Hidden (Zo (Ac ++ stT txS (.cons ⟨8, name⟩ .nil b' l' .nil) n) Z6) := by rw [← (show _ = Z6 from hZ6), ← (show _ = Ac ++ _ from hS)]; exact z5.app _
        have lZ6 : Z6.length ≤ 140737488355328 := by rw [← (show _ = Z6 from hZ6)]; have := z5.2.2; have h9 := lQ; rw [List.length_append] at h9 ⊢; omega
        clear hS
        go_wp2_with (at_builtin; go_must (refine wpList_by rfl _ _ rfl w0 B _ Z5 Q1 Z6 rfl rfl how5 hZ6 lZ6 ?_); intro aoz capz w6 hcz hmz how6 f6)
        go_roundg r'.len
        case measure =>
          have : gk = r'.len + 1 := hgkH
          omega
        case rel => exact finH Z6 _ _ how6 zZ6 (by_trans (by_then f0 (by_trans fn (by_then (Fr.drew _ _) (by_trans f3 (by_trans f4 f5))))) f6)
      exfalso
      rw [if_neg (by omega), if_neg k3, if_neg k4, if_neg k5, if_neg (by omega), if_neg k8, if_neg k9] at hf
      cases hf
theorem lin_any (k : Sts) : LinC k := by
  have : ∀ (n : Nat) (k : Sts), k.size < n → LinC k := by
    intro n
    induction n with
    | zero => intro k hk; omega
    | succ n ih => intro k hk; exact lin_step k (fun k' hk' => ih k' (by omega))
  exact this (k.size + 1) k (by omega)
end Go.Proofs.YteijjaabngkbjaaGreatDoor.V
