/- The program's look at declarations. -/
import Derived.Test.YtfkccanjdlajlabGreatDoorTrL4
namespace Go.Proofs.YtfkccanjdlajlabGreatDoor
open Go.RowKit Te
set_option linter.unusedSimpArgs false
set_option linter.unusedVariables false

set_option maxRecDepth 20000 in
set_option maxHeartbeats 4000000 in
theorem dfits_1 (ex : Bool) (name : Bs) (type : Int) (params : List Pa) (e : Exs) (body : Sts) (ao1 ao2 ao3 : Option Addr) (cap1 cap2 cap3 : Nat) (w : World) (m1 : cap1 ≤ 9223372036854775807) (m2 : cap2 ≤ 9223372036854775807) (m3 : cap3 ≤ 9223372036854775807) (l1 : params.length ≤ cap1) (l2 : e.len ≤ cap2) (l3 : body.len ≤ cap3) (r : Bool) (hr : Hidden (fitsD ⟨1, ex, name, type, params, e, body⟩ = r)) :
    Calls Tryz.prog 79 #[deV ⟨1, ex, name, type, params, e, body⟩ (.slice ao1 params.length cap1) (.slice ao2 e.len cap2) (.slice ao3 body.len cap3)] w fun ee w' => ee = .returned (.bool r) ∧ Fr (fun _ => False) w w' := by
  have kt := fun w => isType_any type _ rfl w
  have hr2 : Hidden ((isTy type && decide (e.len = 1 ∧ params.length = 0 ∧ body.len = 0)) = r) := by rw [← (show _ = r from hr)]; simp [Hidden, fitsD]
  generalize isTy type = ty at kt hr2
  generalize e.len = ne at *
  generalize body.len = nb at *
  generalize params.length = np at *
  clear hr
  cases ty <;> cases ex
  all_goals
    go_enter Tryz.func79, Tryz.ntmps79
    go_wp2_with (go_at_call 80; refine (kt _).mono ?_; rintro ee w1 ⟨rfl, rfl⟩)
    all_goals
      go_ret
      refine ⟨ret_bl ?_, Fr.alloc _ _ _⟩
      rw [← (show _ = r from hr2)]
      clear hr2 kt
      subst_vars
      try simp only [beq_iff_eq, beq_eq_false_iff_ne, ne_eq] at *
      first | (simp [*]; done) | (simp [*]; omega) | (rw [Bool.eq_iff_iff]; simp [*]; done) | (rw [Bool.eq_iff_iff]; simp [*]; omega)
set_option maxRecDepth 20000 in
set_option maxHeartbeats 4000000 in
theorem dfits_2 (ex : Bool) (name : Bs) (type : Int) (params : List Pa) (e : Exs) (body : Sts) (ao1 ao2 ao3 : Option Addr) (cap1 cap2 cap3 : Nat) (w : World) (m1 : cap1 ≤ 9223372036854775807) (m2 : cap2 ≤ 9223372036854775807) (m3 : cap3 ≤ 9223372036854775807) (l1 : params.length ≤ cap1) (l2 : e.len ≤ cap2) (l3 : body.len ≤ cap3) (r : Bool) (hr : Hidden (fitsD ⟨2, ex, name, type, params, e, body⟩ = r)) :
    Calls Tryz.prog 79 #[deV ⟨2, ex, name, type, params, e, body⟩ (.slice ao1 params.length cap1) (.slice ao2 e.len cap2) (.slice ao3 body.len cap3)] w fun ee w' => ee = .returned (.bool r) ∧ Fr (fun _ => False) w w' := by
  have kt := fun w => isType_any type _ rfl w
  have hr2 : Hidden ((!ex && isTy type && decide (e.len = 1 ∧ params.length = 0 ∧ body.len = 0)) = r) := by rw [← (show _ = r from hr)]; simp [Hidden, fitsD]
  generalize isTy type = ty at kt hr2
  generalize e.len = ne at *
  generalize body.len = nb at *
  generalize params.length = np at *
  clear hr
  cases ty <;> cases ex
  all_goals
    go_enter Tryz.func79, Tryz.ntmps79
    go_wp2_with (go_at_call 80; refine (kt _).mono ?_; rintro ee w1 ⟨rfl, rfl⟩)
    all_goals
      go_ret
      refine ⟨ret_bl ?_, Fr.alloc _ _ _⟩
      rw [← (show _ = r from hr2)]
      clear hr2 kt
      subst_vars
      try simp only [beq_iff_eq, beq_eq_false_iff_ne, ne_eq] at *
      first | (simp [*]; done) | (simp [*]; omega) | (rw [Bool.eq_iff_iff]; simp [*]; done) | (rw [Bool.eq_iff_iff]; simp [*]; omega)
set_option maxRecDepth 20000 in
set_option maxHeartbeats 4000000 in
theorem dfits_3 (ex : Bool) (name : Bs) (type : Int) (params : List Pa) (e : Exs) (body : Sts) (ao1 ao2 ao3 : Option Addr) (cap1 cap2 cap3 : Nat) (w : World) (m1 : cap1 ≤ 9223372036854775807) (m2 : cap2 ≤ 9223372036854775807) (m3 : cap3 ≤ 9223372036854775807) (l1 : params.length ≤ cap1) (l2 : e.len ≤ cap2) (l3 : body.len ≤ cap3) (r : Bool) (hr : Hidden (fitsD ⟨3, ex, name, type, params, e, body⟩ = r)) :
    Calls Tryz.prog 79 #[deV ⟨3, ex, name, type, params, e, body⟩ (.slice ao1 params.length cap1) (.slice ao2 e.len cap2) (.slice ao3 body.len cap3)] w fun ee w' => ee = .returned (.bool r) ∧ Fr (fun _ => False) w w' := by
  have kt := fun w => isType_any type _ rfl w
  have hr2 : Hidden (((type == 0 || isTy type) && decide (e.len = 0)) = r) := by rw [← (show _ = r from hr)]; simp [Hidden, fitsD]
  generalize isTy type = ty at kt hr2
  generalize e.len = ne at *
  generalize body.len = nb at *
  generalize params.length = np at *
  clear hr
  cases ty <;> cases ex
  all_goals
    go_enter Tryz.func79, Tryz.ntmps79
    go_wp2_with (go_at_call 80; refine (kt _).mono ?_; rintro ee w1 ⟨rfl, rfl⟩)
    all_goals
      go_ret
      refine ⟨ret_bl ?_, Fr.alloc _ _ _⟩
      rw [← (show _ = r from hr2)]
      clear hr2 kt
      subst_vars
      try simp only [beq_iff_eq, beq_eq_false_iff_ne, ne_eq] at *
      first | (simp [*]; done) | (simp [*]; omega) | (rw [Bool.eq_iff_iff]; simp [*]; done) | (rw [Bool.eq_iff_iff]; simp [*]; omega)
set_option maxRecDepth 20000 in
set_option maxHeartbeats 4000000 in
theorem dfits_no (kind : Int) (ex : Bool) (name : Bs) (type : Int) (params : List Pa) (e : Exs) (body : Sts) (n1 : kind ≠ 1) (n2 : kind ≠ 2) (n3 : kind ≠ 3) (ao1 ao2 ao3 : Option Addr) (cap1 cap2 cap3 : Nat) (w : World) (m1 : cap1 ≤ 9223372036854775807) (m2 : cap2 ≤ 9223372036854775807) (m3 : cap3 ≤ 9223372036854775807) (l1 : params.length ≤ cap1) (l2 : e.len ≤ cap2) (l3 : body.len ≤ cap3) (r : Bool) (hr : Hidden (fitsD ⟨kind, ex, name, type, params, e, body⟩ = r)) :
    Calls Tryz.prog 79 #[deV ⟨kind, ex, name, type, params, e, body⟩ (.slice ao1 params.length cap1) (.slice ao2 e.len cap2) (.slice ao3 body.len cap3)] w fun ee w' => ee = .returned (.bool r) ∧ Fr (fun _ => False) w w' := by
  have kt := fun w => isType_any type _ rfl w
  have x1 : (kind == 1) = false := by simp [n1]
  have x2 : (kind == 2) = false := by simp [n2]
  have x3 : (kind == 3) = false := by simp [n3]
  have hr2 : Hidden (false = r) := by rw [← (show _ = r from hr)]; simp [Hidden, fitsD, n1, n2, n3]
  clear hr n1 n2 n3
  go_enter Tryz.func79, Tryz.ntmps79
  go_wp2_with fail
  go_ret
  exact ⟨ret_bl hr2, Fr.alloc _ _ _⟩
theorem dfits_any (d : De) (ao1 ao2 ao3 : Option Addr) (cap1 cap2 cap3 : Nat) (w : World) (m1 : cap1 ≤ 9223372036854775807) (m2 : cap2 ≤ 9223372036854775807) (m3 : cap3 ≤ 9223372036854775807) (l1 : d.params.length ≤ cap1) (l2 : d.e.len ≤ cap2) (l3 : d.body.len ≤ cap3) (r : Bool) (hr : fitsD d = r) :
    Calls Tryz.prog 79 #[deV d (.slice ao1 d.params.length cap1) (.slice ao2 d.e.len cap2) (.slice ao3 d.body.len cap3)] w fun ee w' => ee = .returned (.bool r) ∧ Fr (fun _ => False) w w' := by
  obtain ⟨kind, ex, name, type, params, e, body⟩ := d
  by_cases n1 : kind = 1
  · subst n1; exact dfits_1 ex name type params e body ao1 ao2 ao3 cap1 cap2 cap3 w m1 m2 m3 l1 l2 l3 r hr
  by_cases n2 : kind = 2
  · subst n2; exact dfits_2 ex name type params e body ao1 ao2 ao3 cap1 cap2 cap3 w m1 m2 m3 l1 l2 l3 r hr
  by_cases n3 : kind = 3
  · subst n3; exact dfits_3 ex name type params e body ao1 ao2 ao3 cap1 cap2 cap3 w m1 m2 m3 l1 l2 l3 r hr
  exact dfits_no kind ex name type params e body n1 n2 n3 ao1 ao2 ao3 cap1 cap2 cap3 w m1 m2 m3 l1 l2 l3 r hr
theorem pa_box {w : World} {b : Nat} {x0 x1 : Value} {t : TypeId} (hb : w.heap[b]? = some (.cells #[x0, x1] t (0, 0))) : w.cell? ⟨b, 0, none⟩ = some x0 ∧ w.cell? ⟨b, 1, none⟩ = some x1 :=
  ⟨cell_of_row _ _ 0 _ _ _ hb, cell_of_row _ _ 1 _ _ _ hb⟩
set_option maxRecDepth 20000 in
set_option maxHeartbeats 4000000 in
theorem lookD_any (d : De) (pv ev bv : Value) (w : World) (hok : OkD d) (hd : DeI w d pv ev bv) :
    Calls Tryz.prog 64 #[deV d pv ev bv] w fun ee w' => ee = lk (errD rnS cnS d) ∧ Fr (fun _ => False) w w' := by
  have f0 : Fr (fun _ => False) w (w.alloc (.cells #[ci d.kind, .bool d.ex, ct d.name, ci d.type, pv, ev, bv] 36)) := Fr.alloc _ _ _
  have kd := decl_any d pv ev bv _ rfl _ (hd.keep f0)
  obtain ⟨ao1, cap1, ao2, cap2, ao3, cap3, rfl, rfl, rfl, hp, he, hb⟩ := hd
  have m1 : cap1 ≤ 9223372036854775807 := by have := hp.2.1; unfold maxLen at this; omega
  have m2 : cap2 ≤ 9223372036854775807 := by have := he.2.1; unfold maxLen at this; omega
  have m3 : cap3 ≤ 9223372036854775807 := by have := hb.2.1; unfold maxLen at this; omega
  have hbx : Hidden ((w.alloc (.cells #[ci d.kind, .bool d.ex, ct d.name, ci d.type, .slice ao1 d.params.length cap1, .slice ao2 d.e.len cap2, .slice ao3 d.body.len cap3] 36)).heap[w.heap.size]? = some (.cells #[ci d.kind, .bool d.ex, ct d.name, ci d.type, .slice ao1 d.params.length cap1, .slice ao2 d.e.len cap2, .slice ao3 d.body.len cap3] 36 (0, 0))) := alloc_new _ _
  have kf := fun (w' : World) (g : Fr (fun _ => False) w w') r hr => dfits_any d ao1 ao2 ao3 cap1 cap2 cap3 w' m1 m2 m3 hp.1 he.1 hb.1 r hr
  have kx := look_any d.e
  unfold LookL at kx
  have kb := lookB_any d.body
  unfold LookB at kb
  have hE : errD rnS cnS d = orE (if 32 < dD d then 13 else 0) (orE (if fitsD d then 0 else 1) (orE (rnS d.name) (orE (if 8 < d.params.length then 3 else 0) (orE (errP rnS d.params) (orE (errL rnS cnS d.e) (errS rnS cnS d.body)))))) := rfl
  obtain ⟨fb, hf0⟩ : ∃ fb, fitsD d = fb := ⟨_, rfl⟩
  rw [hf0] at hE
  generalize hD : dD d = DD at kd hE
  clear hD
  by_cases h13 : DD ≤ 32
  · by_cases hf : fb = true
    · by_cases hn : rnS d.name = 0
      · by_cases h8 : d.params.length ≤ 8
        · go_enter Tryz.func64, Tryz.ntmps64
          go_wp2_with fail
          go_at_call 29
          refine (kd).mono ?_
          rintro ee w1 ⟨rfl, f1⟩
          have h1 := f1.heap hbx (fun f => f)
          obtain ⟨c0, c1, c2, c3, c4, c5, c6⟩ := ex_box h1
          have g1 := f0.same f1
          go_wp2_with fail
          go_at_call 57
          refine (must_yes _ (by first | rfl | (simp; omega)) 13 _).mono ?_
          rintro ee wz ⟨rfl, rfl⟩
          go_wp2_with fail
          go_at_call 79
          refine (kf _ g1 _ hf0).mono ?_
          rintro ee w2 ⟨rfl, f2⟩
          have h2 := f2.heap h1 (fun f => f)
          obtain ⟨c0, c1, c2, c3, c4, c5, c6⟩ := ex_box h2
          have g2 := g1.same f2
          go_wp2_with fail
          go_at_call 57
          refine (must_yes _ (by first | rfl | exact hf) 1 _).mono ?_
          rintro ee wz ⟨rfl, rfl⟩
          go_wp2_with fail
          go_at_call 63
          refine (mustName_ok d.name hn hok.name _).mono ?_
          rintro ee wz ⟨rfl, rfl⟩
          go_wp2_with fail
          go_at_call 57
          refine (must_yes _ (by first | rfl | (simp; omega)) 3 _).mono ?_
          rintro ee wz ⟨rfl, rfl⟩
          have hE2 : Hidden (errD rnS cnS d = orE (errP rnS d.params) (orE (errL rnS cnS d.e) (errS rnS cnS d.body))) := by
            show errD rnS cnS d = _
            rw [hE, if_neg (by omega), if_neg (show ¬ 8 < d.params.length by omega)]
            simp [orE, *]
          clear hE h13 hf hf0 hn
          go_wp2_with fail
          go_loopg [22] d.params.length (fun g iv wr => ∃ (i : Nat), iv = ci (i : Int) ∧ i ≤ d.params.length ∧ errP rnS d.params = errP rnS (d.params.drop i) ∧ g = d.params.length - i ∧ Fr (fun _ => False) wz wr)
          case atStart => exact ⟨0, rfl, by omega, by simp, rfl, Fr.refl _ _⟩
          case round =>
            obtain ⟨i, rfl, hi, hdk, hgk, hfr⟩ := hrel
            have hgkH : Hidden (gk = d.params.length - i) := hgk
            have hdkH : Hidden (errP rnS d.params = errP rnS (d.params.drop i)) := hdk
            clear hgk hdk
            have g3 := g2.same hfr
            have h3 := hfr.heap h2 (fun f => f)
            by_cases hil : i < d.params.length
            · obtain ⟨p, hpi⟩ : ∃ p, d.params[i]? = some p := ⟨d.params[i], List.getElem?_eq_getElem hil⟩
              rcases hp.2.2 with h0 | ⟨b, off, rfl, hcp⟩
              · rw [h0] at hil; simp at hil
              have d0 := g3.cellN (hcp i p hpi 0 _ rfl)
              have d1 := g3.cellN (hcp i p hpi 1 _ rfl)
              simp only [Nat.add_zero] at d0
              have hpok := hok.params p (List.mem_of_getElem? hpi)
              have hdk2 : Hidden (errP rnS d.params = orE (orE (rnS p.name) (if isTy p.type then 0 else 1)) (errP rnS (d.params.drop (i + 1)))) := by
                show errP rnS d.params = _
                rw [show errP rnS d.params = _ from hdkH, drop_at hpi]
                rfl
              have kt := fun w => isType_any p.type _ rfl w
              have hpb : Hidden ((wr.alloc (.cells #[ct p.name, ci p.type] 59)).heap[wr.heap.size]? = some (.cells #[ct p.name, ci p.type] 59 (0, 0))) := alloc_new _ _
              obtain ⟨p0, p1⟩ := pa_box (show _ = _ from hpb)
              by_cases hpn : rnS p.name = 0
              · rw [hpn] at hdk2
                generalize isTy p.type = ty at kt hdk2
                cases ty
                · go_wp2_with fail
                  go_at_call 63
                  refine (mustName_ok p.name hpn hpok.1 _).mono ?_
                  rintro ee wz ⟨rfl, rfl⟩
                  go_wp2_with fail
                  go_at_call 80
                  refine (kt _).mono ?_
                  rintro ee wz ⟨rfl, rfl⟩
                  go_wp2_with fail
                  go_at_call 57
                  refine (must_not _ rfl 1 _).mono ?_
                  unfold gUp
                  rintro ee wz ⟨rfl, rfl⟩
                  go_wp2_with fail
                  refine ⟨rfl, (lk_is ⟨?_, by decide⟩).symm, g3.same (Fr.alloc _ _ _)⟩
                  rw [show errD rnS cnS d = _ from hE2, show errP rnS d.params = _ from hdk2]
                  rfl
                · go_wp2_with fail
                  go_at_call 63
                  refine (mustName_ok p.name hpn hpok.1 _).mono ?_
                  rintro ee wz ⟨rfl, rfl⟩
                  go_wp2_with fail
                  go_at_call 80
                  refine (kt _).mono ?_
                  rintro ee wz ⟨rfl, rfl⟩
                  go_wp2_with fail
                  go_at_call 57
                  refine (must_yes _ rfl 1 _).mono ?_
                  rintro ee wz ⟨rfl, rfl⟩
                  go_wp2_with fail
                  go_roundg (d.params.length - (i + 1))
                  case measure =>
                    have : gk = d.params.length - i := hgkH
                    omega
                  case rel => exact ⟨i + 1, by go_num, by omega, hdk2, rfl, hfr.same (Fr.alloc _ _ _)⟩
              · go_wp2_with fail
                go_at_call 63
                refine (mustName_no p.name _ rfl hpn hpok.1 _).mono ?_
                unfold gUp
                rintro ee wz ⟨rfl, rfl⟩
                go_wp2_with fail
                refine ⟨rfl, (lk_is ⟨?_, hpn⟩).symm, g3.same (Fr.alloc _ _ _)⟩
                rw [show errD rnS cnS d = _ from hE2, show errP rnS d.params = _ from hdk2, orE_ne _ hpn, orE_ne _ hpn, orE_ne _ hpn]
            · obtain rfl : i = d.params.length := by omega
              have hP : errP rnS d.params = 0 := by rw [show errP rnS d.params = _ from hdkH, List.drop_length]; rfl
              obtain ⟨c0, c1, c2, c3, c4, c5, c6⟩ := ex_box h3
              have hE3 : Hidden (errD rnS cnS d = orE (errL rnS cnS d.e) (errS rnS cnS d.body)) := by
                show errD rnS cnS d = _
                rw [show errD rnS cnS d = _ from hE2, hP]
                rfl
              clear hE2 hP hdkH hgkH
              by_cases hx : errL rnS cnS d.e = 0
              · by_cases hy : errS rnS cnS d.body = 0
                · go_wp2_with fail
                  go_at_call 75
                  refine (kx ao2 cap2 _ hok.e (he.keep g3)).mono ?_
                  rw [hx, lk_0]
                  rintro ee w4 ⟨rfl, f4⟩
                  obtain ⟨c0, c1, c2, c3, c4, c5, c6⟩ := ex_box (f4.heap h3 (fun f => f))
                  go_wp2_with fail
                  go_at_call 81
                  refine (kb ao3 cap3 _ hok.body (hb.keep (g3.same f4))).mono ?_
                  rw [hy, lk_0]
                  rintro ee w5 ⟨rfl, f5⟩
                  go_wp2_with fail
                  go_end0
                  refine ⟨?_, (g3.same f4).same f5⟩
                  rw [show errD rnS cnS d = _ from hE3, hx, hy]
                  rfl
                · go_wp2_with fail
                  go_at_call 75
                  refine (kx ao2 cap2 _ hok.e (he.keep g3)).mono ?_
                  rw [hx, lk_0]
                  rintro ee w4 ⟨rfl, f4⟩
                  obtain ⟨c0, c1, c2, c3, c4, c5, c6⟩ := ex_box (f4.heap h3 (fun f => f))
                  go_wp2_with fail
                  go_at_call 81
                  refine (kb ao3 cap3 _ hok.body (hb.keep (g3.same f4))).mono ?_
                  rw [lk_ne hy]
                  unfold gUp
                  rintro ee w5 ⟨rfl, f5⟩
                  go_wp2_with fail
                  refine ⟨rfl, (lk_is ⟨?_, hy⟩).symm, (g3.same f4).same f5⟩
                  rw [show errD rnS cnS d = _ from hE3, hx]
                  rfl
              · go_wp2_with fail
                go_at_call 75
                refine (kx ao2 cap2 _ hok.e (he.keep g3)).mono ?_
                rw [lk_ne hx]
                unfold gUp
                rintro ee w4 ⟨rfl, f4⟩
                go_wp2_with fail
                refine ⟨rfl, (lk_is ⟨?_, hx⟩).symm, g3.same f4⟩
                rw [show errD rnS cnS d = _ from hE3, orE_ne _ hx]
        · go_enter Tryz.func64, Tryz.ntmps64
          go_wp2_with fail
          go_at_call 29
          refine (kd).mono ?_
          rintro ee w1 ⟨rfl, f1⟩
          have h1 := f1.heap hbx (fun f => f)
          obtain ⟨c0, c1, c2, c3, c4, c5, c6⟩ := ex_box h1
          have g1 := f0.same f1
          go_wp2_with fail
          go_at_call 57
          refine (must_yes _ (by first | rfl | (simp; omega)) 13 _).mono ?_
          rintro ee wz ⟨rfl, rfl⟩
          go_wp2_with fail
          go_at_call 79
          refine (kf _ g1 _ hf0).mono ?_
          rintro ee w2 ⟨rfl, f2⟩
          have h2 := f2.heap h1 (fun f => f)
          obtain ⟨c0, c1, c2, c3, c4, c5, c6⟩ := ex_box h2
          have g2 := g1.same f2
          go_wp2_with fail
          go_at_call 57
          refine (must_yes _ (by first | rfl | exact hf) 1 _).mono ?_
          rintro ee wz ⟨rfl, rfl⟩
          go_wp2_with fail
          go_at_call 63
          refine (mustName_ok d.name hn hok.name _).mono ?_
          rintro ee wz ⟨rfl, rfl⟩
          go_wp2_with fail
          go_at_call 57
          refine (must_not _ (by first | rfl | (simp; omega)) 3 _).mono ?_
          unfold gUp
          rintro ee wz ⟨rfl, rfl⟩
          go_wp2_with fail
          exact ⟨rfl, (lk_is ⟨by rw [hE, if_neg (by omega), if_pos (show 8 < d.params.length by omega)]; simp [orE, *], by decide⟩).symm, g2⟩
      · go_enter Tryz.func64, Tryz.ntmps64
        go_wp2_with fail
        go_at_call 29
        refine (kd).mono ?_
        rintro ee w1 ⟨rfl, f1⟩
        have h1 := f1.heap hbx (fun f => f)
        obtain ⟨c0, c1, c2, c3, c4, c5, c6⟩ := ex_box h1
        have g1 := f0.same f1
        go_wp2_with fail
        go_at_call 57
        refine (must_yes _ (by first | rfl | (simp; omega)) 13 _).mono ?_
        rintro ee wz ⟨rfl, rfl⟩
        go_wp2_with fail
        go_at_call 79
        refine (kf _ g1 _ hf0).mono ?_
        rintro ee w2 ⟨rfl, f2⟩
        have h2 := f2.heap h1 (fun f => f)
        obtain ⟨c0, c1, c2, c3, c4, c5, c6⟩ := ex_box h2
        have g2 := g1.same f2
        go_wp2_with fail
        go_at_call 57
        refine (must_yes _ (by first | rfl | exact hf) 1 _).mono ?_
        rintro ee wz ⟨rfl, rfl⟩
        go_wp2_with fail
        go_at_call 63
        refine (mustName_no d.name _ rfl hn hok.name _).mono ?_
        unfold gUp
        rintro ee wz ⟨rfl, rfl⟩
        go_wp2_with fail
        exact ⟨rfl, (lk_is ⟨by rw [hE, if_neg (by omega)]; simp [orE, *], hn⟩).symm, g2⟩
    · go_enter Tryz.func64, Tryz.ntmps64
      go_wp2_with fail
      go_at_call 29
      refine (kd).mono ?_
      rintro ee w1 ⟨rfl, f1⟩
      have h1 := f1.heap hbx (fun f => f)
      obtain ⟨c0, c1, c2, c3, c4, c5, c6⟩ := ex_box h1
      have g1 := f0.same f1
      go_wp2_with fail
      go_at_call 57
      refine (must_yes _ (by first | rfl | (simp; omega)) 13 _).mono ?_
      rintro ee wz ⟨rfl, rfl⟩
      go_wp2_with fail
      go_at_call 79
      refine (kf _ g1 _ hf0).mono ?_
      rintro ee w2 ⟨rfl, f2⟩
      have h2 := f2.heap h1 (fun f => f)
      obtain ⟨c0, c1, c2, c3, c4, c5, c6⟩ := ex_box h2
      have g2 := g1.same f2
      go_wp2_with fail
      go_at_call 57
      replace hf : fb = false := by simpa using hf
      refine (must_not _ (by first | rfl | exact hf) 1 _).mono ?_
      unfold gUp
      rintro ee wz ⟨rfl, rfl⟩
      go_wp2_with fail
      exact ⟨rfl, (lk_is ⟨by rw [hE, if_neg (by omega)]; simp [orE, *], by decide⟩).symm, g2⟩
  · go_enter Tryz.func64, Tryz.ntmps64
    go_wp2_with fail
    go_at_call 29
    refine (kd).mono ?_
    rintro ee w1 ⟨rfl, f1⟩
    have h1 := f1.heap hbx (fun f => f)
    obtain ⟨c0, c1, c2, c3, c4, c5, c6⟩ := ex_box h1
    have g1 := f0.same f1
    go_wp2_with fail
    go_at_call 57
    refine (must_not _ (by first | rfl | (simp; omega)) 13 _).mono ?_
    unfold gUp
    rintro ee wz ⟨rfl, rfl⟩
    go_wp2_with fail
    exact ⟨rfl, (lk_is ⟨by rw [hE, if_pos (by omega)]; rfl, by decide⟩).symm, g1⟩
end Go.Proofs.YtfkccanjdlajlabGreatDoor
