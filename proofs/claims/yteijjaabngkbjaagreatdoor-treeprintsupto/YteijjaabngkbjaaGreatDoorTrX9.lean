/- The document's look at declarations. -/
import Derived.Test.YteijjaabngkbjaaGreatDoorTrX8
import Derived.Test.YteijjaabngkbjaaGreatDoorTrX5
namespace Go.Proofs.YteijjaabngkbjaaGreatDoor.X
open Go.RowKit Te
set_option linter.unusedSimpArgs false
set_option linter.unusedVariables false

set_option maxRecDepth 20000 in
set_option maxHeartbeats 4000000 in
theorem declared_any (d : De) (pv ev bv : Value) (w : World) (hd : DeI w d pv ev bv) (r : Bool) (hr : Hidden (fitsD d = r)) :
    Calls Tryz.prog 87 #[deV d pv ev bv] w fun e w' => e = .returned (.bool r) ∧ Fr (fun _ => False) w w' := by
  obtain ⟨ao1, cap1, ao2, cap2, ao3, cap3, rfl, rfl, rfl, hp, he, hb⟩ := hd
  obtain ⟨kind, ex, name, type, params, e, body⟩ := d
  simp only at hp he hb
  have l1 : params.length ≤ 9223372036854775807 := by have := hp.1; have := hp.2.1; unfold maxLen at this; omega
  have l2 : e.len ≤ 9223372036854775807 := by have := he.1; have := he.2.1; unfold maxLen at this; omega
  have l3 : body.len ≤ 9223372036854775807 := by have := hb.1; have := hb.2.1; unfold maxLen at this; omega
  have c1 := hp.1
  have c2 := he.1
  have c3 := hb.1
  clear hp he hb
  have kv := fun w => valued_any type _ rfl w
  by_cases h1 : kind = 1
  · subst h1
    have hr2 : Hidden ((isTy type && decide (e.len = 1 ∧ params.length = 0 ∧ body.len = 0)) = r) := by rw [← (show _ = r from hr)]; simp [Hidden, fitsD]
    clear hr
    generalize isTy type = ty at kv hr2
    generalize e.len = ne at *
    generalize params.length = np at *
    generalize body.len = nb at *
    cases ty
    all_goals
      go_enter Tryz.func87, Tryz.ntmps87
      go_wp2_with (go_at_call 88; refine (kv _).mono ?_; rintro e w' ⟨rfl, rfl⟩)
      all_goals
        go_ret
        refine ⟨ret_bl ?_, Fr.alloc _ _ _⟩
        rw [← (show _ = r from hr2)]
        clear hr2 kv
        try simp only [beq_iff_eq, beq_eq_false_iff_ne, ne_eq] at *
        first | (simp [*]; done) | (simp [*]; omega) | (rw [Bool.eq_iff_iff]; simp [*]; done) | (rw [Bool.eq_iff_iff]; simp [*]; omega)
  · have n1 : (kind == 1) = false := by simp [h1]
    by_cases h2 : kind = 2
    · subst h2
      have hr2 : Hidden ((!ex && (isTy type && decide (e.len = 1 ∧ params.length = 0 ∧ body.len = 0))) = r) := by rw [← (show _ = r from hr)]; simp [Hidden, fitsD, Bool.and_assoc]
      clear hr
      generalize isTy type = ty at kv hr2
      generalize e.len = ne at *
      generalize params.length = np at *
      generalize body.len = nb at *
      cases ty <;> cases ex
      all_goals
        go_enter Tryz.func87, Tryz.ntmps87
        go_wp2_with (go_at_call 88; refine (kv _).mono ?_; rintro e w' ⟨rfl, rfl⟩)
        all_goals
          go_ret
          refine ⟨ret_bl ?_, Fr.alloc _ _ _⟩
          rw [← (show _ = r from hr2)]
          clear hr2 kv
          try simp only [beq_iff_eq, beq_eq_false_iff_ne, ne_eq] at *
          first | (simp [*]; done) | (simp [*]; omega) | (rw [Bool.eq_iff_iff]; simp [*]; done) | (rw [Bool.eq_iff_iff]; simp [*]; omega)
    · have n2 : (kind == 2) = false := by simp [h2]
      by_cases h3 : kind = 3
      · subst h3
        have hr2 : Hidden (((type == 0 || isTy type) && decide (e.len = 0)) = r) := by rw [← (show _ = r from hr)]; simp [Hidden, fitsD]
        clear hr
        by_cases h0 : type = 0
        · subst h0
          generalize e.len = ne at *
          go_enter Tryz.func87, Tryz.ntmps87
          go_wp2_with fail
          all_goals
            go_ret
            refine ⟨ret_bl ?_, Fr.alloc _ _ _⟩
            rw [← (show _ = r from hr2)]
            clear hr2 kv
            try simp only [beq_iff_eq, beq_eq_false_iff_ne, ne_eq] at *
            first | (simp [*]; done) | (simp [*]; omega) | (rw [Bool.eq_iff_iff]; simp [*]; done) | (rw [Bool.eq_iff_iff]; simp [*]; omega)
        · have n0 : (type == 0) = false := by simp [h0]
          rw [n0] at hr2
          generalize isTy type = ty at kv hr2
          generalize e.len = ne at *
          cases ty
          all_goals
            go_enter Tryz.func87, Tryz.ntmps87
            go_wp2_with (go_at_call 88; refine (kv _).mono ?_; rintro e w' ⟨rfl, rfl⟩)
            all_goals
              go_ret
              refine ⟨ret_bl ?_, Fr.alloc _ _ _⟩
              rw [← (show _ = r from hr2)]
              clear hr2 kv
              try simp only [beq_iff_eq, beq_eq_false_iff_ne, ne_eq] at *
              first | (simp [*]; done) | (simp [*]; omega) | (rw [Bool.eq_iff_iff]; simp [*]; done) | (rw [Bool.eq_iff_iff]; simp [*]; omega)
      · have n3 : (kind == 3) = false := by simp [h3]
        have hr2 : Hidden (false = r) := by rw [← (show _ = r from hr)]; simp [Hidden, fitsD, h1, h2, h3]
        clear hr kv
        go_enter Tryz.func87, Tryz.ntmps87
        go_wp2_with fail
        go_ret
        exact ⟨ret_bl hr2, Fr.alloc _ _ _⟩
set_option maxRecDepth 20000 in
set_option maxHeartbeats 8000000 in
theorem de_any (d : De) (pv ev bv : Value) (w : World) (hd : DeI w d pv ev bv) (ok : OkD d) (R : Int) (hR : Hidden (errD rnS cnS d = R)) :
    Calls Tryz.prog 41 #[deV d pv ev bv] w fun e w' => e = .returned (ci R) ∧ Fr (fun _ => False) w w' := by
  have kd0 := fun (w1 : World) (f : Fr (fun _ => False) w w1) => decl_any d pv ev bv _ rfl w1 (hd.keep f)
  have kc0 := fun (w1 : World) (f : Fr (fun _ => False) w w1) => declared_any d pv ev bv w1 (hd.keep f) _ rfl
  obtain ⟨ao1, cap1, ao2, cap2, ao3, cap3, rfl, rfl, rfl, hp, he, hb⟩ := hd
  obtain ⟨kind, ex, name, type, params, e, body⟩ := d
  simp only at hp he hb
  have l1 : params.length ≤ 9223372036854775807 := by have := hp.1; have := hp.2.1; unfold maxLen at this; omega
  have l2 : e.len ≤ 9223372036854775807 := by have := he.1; have := he.2.1; unfold maxLen at this; omega
  have m1 := hp.1
  have m2 := he.1
  have hbx : Hidden ((w.alloc (.cells #[ci kind, .bool ex, ct name, ci type, .slice ao1 params.length cap1, .slice ao2 e.len cap2, .slice ao3 body.len cap3] 51)).heap[w.heap.size]? = some (.cells #[ci kind, .bool ex, ct name, ci type, .slice ao1 params.length cap1, .slice ao2 e.len cap2, .slice ao3 body.len cap3] 51 (0, 0))) := alloc_new _ _
  have f0 : Fr (fun _ => False) w (w.alloc (.cells #[ci kind, .bool ex, ct name, ci type, .slice ao1 params.length cap1, .slice ao2 e.len cap2, .slice ao3 body.len cap3] 51)) := Fr.alloc _ _ _
  have kb := fun (w1 : World) (f : Fr (fun _ => False) w w1) => sts_any body ao3 cap3 w1 ok.body (hb.keep f)
  have hR1 : Hidden (orE (if 32 < dD ⟨kind, ex, name, type, params, e, body⟩ then 13 else 0) (orE (if fitsD ⟨kind, ex, name, type, params, e, body⟩ then 0 else 1) (orE (N.rightS name) (orE (if 8 < params.length then 3 else 0) (orE (errP rnS params) (orE (errL rnS cnS e) (errS rnS cnS body)))))) = R) := hR
  clear hR
  have kd : ∀ (w1 : World) (f : Fr (fun _ => False) w w1), _ := kd0
  have kc : ∀ (w1 : World) (f : Fr (fun _ => False) w w1), _ := kc0
  clear kd0 kc0
  generalize dD ⟨kind, ex, name, type, params, e, body⟩ = dep at kd hR1
  generalize fitsD ⟨kind, ex, name, type, params, e, body⟩ = fit at kc hR1
  by_cases hdep : 32 < dep
  · have hres : Hidden (13 = R) := by rw [← (show _ = R from hR1)]; simp [Hidden, orE, hdep]
    clear hR1
    go_enter Tryz.func41, Tryz.ntmps41
    go_wp2_with fail
    go_at_call 86
    refine (kd _ f0).mono ?_
    rintro ee w1 ⟨rfl, f1⟩
    have y1 := f1.heap hbx (fun f => f)
    obtain ⟨c0, c1, c2, c3, c4, c5, c6⟩ := ex_box y1
    have g1 := f0.same f1
    go_wp2_with fail
    go_ret
    exact ⟨ret_int hres, g1⟩
  cases fit with
  | false =>
    have hres : Hidden (1 = R) := by rw [← (show _ = R from hR1)]; simp [Hidden, orE, hdep]
    clear hR1
    go_enter Tryz.func41, Tryz.ntmps41
    go_wp2_with fail
    go_at_call 86
    refine (kd _ f0).mono ?_
    rintro ee w1 ⟨rfl, f1⟩
    have y1 := f1.heap hbx (fun f => f)
    obtain ⟨c0, c1, c2, c3, c4, c5, c6⟩ := ex_box y1
    have g1 := f0.same f1
    go_wp2_with fail
    go_at_call 87
    refine (kc _ g1).mono ?_
    rintro ee w2 ⟨rfl, f2⟩
    have y2 := f2.heap y1 (fun f => f)
    obtain ⟨c0, c1, c2, c3, c4, c5, c6⟩ := ex_box y2
    have g2 := g1.same f2
    go_wp2_with fail
    go_ret
    exact ⟨ret_int hres, g2⟩
  | true =>
    by_cases hn : N.rightS name = 0
    · by_cases h8 : 8 < params.length
      · have hres : Hidden (3 = R) := by rw [← (show _ = R from hR1)]; simp [Hidden, orE, hdep, hn, h8]
        clear hR1
        go_enter Tryz.func41, Tryz.ntmps41
        go_wp2_with fail
        go_at_call 86
        refine (kd _ f0).mono ?_
        rintro ee w1 ⟨rfl, f1⟩
        have y1 := f1.heap hbx (fun f => f)
        obtain ⟨c0, c1, c2, c3, c4, c5, c6⟩ := ex_box y1
        have g1 := f0.same f1
        go_wp2_with fail
        go_at_call 87
        refine (kc _ g1).mono ?_
        rintro ee w2 ⟨rfl, f2⟩
        have y2 := f2.heap y1 (fun f => f)
        obtain ⟨c0, c1, c2, c3, c4, c5, c6⟩ := ex_box y2
        have g2 := g1.same f2
        go_wp2_with fail
        go_at_call 40
        refine (rright_any name _ hn ok.name _).mono ?_
        rintro ee w3 ⟨rfl, f3⟩
        have y3 := f3.heap y2 (fun f => f)
        obtain ⟨c0, c1, c2, c3, c4, c5, c6⟩ := ex_box y3
        have g3 := g2.same f3
        go_wp2_with fail
        go_ret
        exact ⟨ret_int hres, g3⟩
      · have hR2 : Hidden (orE (errP rnS params) (orE (errL rnS cnS e) (errS rnS cnS body)) = R) := by rw [← (show _ = R from hR1)]; simp [Hidden, orE, hdep, hn, h8]
        clear hR1
        obtain ⟨P, hP⟩ : ∃ P, errP rnS params = P := ⟨_, rfl⟩
        obtain ⟨E, hE⟩ : ∃ E, errL rnS cnS e = E := ⟨_, rfl⟩
        rw [hP, hE] at hR2
        have hPH : Hidden (errP rnS params = P) := hP
        have hEH : Hidden (errL rnS cnS e = E) := hE
        clear hP hE
        go_enter Tryz.func41, Tryz.ntmps41
        go_wp2_with fail
        go_at_call 86
        refine (kd _ f0).mono ?_
        rintro ee w1 ⟨rfl, f1⟩
        have y1 := f1.heap hbx (fun f => f)
        obtain ⟨c0, c1, c2, c3, c4, c5, c6⟩ := ex_box y1
        have g1 := f0.same f1
        go_wp2_with fail
        go_at_call 87
        refine (kc _ g1).mono ?_
        rintro ee w2 ⟨rfl, f2⟩
        have y2 := f2.heap y1 (fun f => f)
        obtain ⟨c0, c1, c2, c3, c4, c5, c6⟩ := ex_box y2
        have g2 := g1.same f2
        go_wp2_with fail
        go_at_call 40
        refine (rright_any name _ hn ok.name _).mono ?_
        rintro ee w3 ⟨rfl, f3⟩
        have y3 := f3.heap y2 (fun f => f)
        obtain ⟨c0, c1, c2, c3, c4, c5, c6⟩ := ex_box y3
        have g3 := g2.same f3
        go_wp2_with fail
        go_loopg [4] params.length (fun g iv wr => ∃ (i : Nat), iv = ci (i : Int) ∧ i ≤ params.length ∧ P = errP rnS (params.drop i) ∧ g = params.length - i ∧ Fr (fun _ => False) w3 wr)
        case atStart => exact ⟨0, rfl, by omega, (show _ = P from hPH).symm, rfl, Fr.refl _ _⟩
        case round =>
          obtain ⟨i, rfl, hi, hdk, hgk, hfr⟩ := hrel
          have hgkH : Hidden (gk = params.length - i) := hgk
          have hdkH : Hidden (P = errP rnS (params.drop i)) := hdk
          have hbw := hfr.heap y3 (fun f => f)
          obtain ⟨c0, c1, c2, c3, c4, c5, c6⟩ := ex_box hbw
          have fw := g3.same hfr
          clear hgk hdk hPH
          by_cases hil : i < params.length
          · obtain ⟨p, hp'⟩ : ∃ p, params[i]? = some p := ⟨params[i], List.getElem?_eq_getElem hil⟩
            have okp := ok.params p (List.mem_of_getElem? hp')
            rcases hp.2.2 with h0 | ⟨b, off, rfl, hc⟩
            · rw [h0] at hil; simp at hil
            have d0 := fw.cellN (hc i p hp' 0 _ rfl)
            have d1 := fw.cellN (hc i p hp' 1 _ rfl)
            simp only [Nat.add_zero] at d0
            have hdk2 : Hidden (P = orE (orE (N.rightS p.name) (if isTy p.type then 0 else 1)) (errP rnS (params.drop (i + 1)))) := by
              show P = _
              rw [show P = _ from hdkH, drop_at hp']
              rfl
            have kv := fun w => valued_any p.type _ rfl w
            generalize isTy p.type = ty at kv hdk2
            clear hdkH hc
            by_cases hpn : N.rightS p.name = 0
            · cases ty with
              | true =>
                have hdk3 : Hidden (P = errP rnS (params.drop (i + 1))) := by rw [show P = _ from hdk2]; simp [Hidden, orE, hpn]
                clear hdk2
                go_wp2_with fail
                go_at_call 40
                refine (rright_any p.name _ hpn okp.1 _).mono ?_
                rintro ee w4 ⟨rfl, f4⟩
                obtain ⟨c0, c1, c2, c3, c4, c5, c6⟩ := ex_box (f4.heap hbw (fun f => f))
                have d1' := f4.cellN d1
                go_wp2_with fail
                go_at_call 88
                refine (kv _).mono ?_
                rintro ee w5 ⟨rfl, rfl⟩
                go_wp2_with fail
                go_roundg (params.length - (i + 1))
                case measure =>
                  have : gk = params.length - i := hgkH
                  omega
                case rel => exact ⟨i + 1, by go_num, by omega, hdk3, rfl, hfr.same f4⟩
              | false =>
                have hres : Hidden (1 = R) := by
                  rw [← (show _ = R from hR2), show P = _ from hdk2]
                  simp [Hidden, orE, hpn]
                clear hdk2 hR2
                go_wp2_with fail
                go_at_call 40
                refine (rright_any p.name _ hpn okp.1 _).mono ?_
                rintro ee w4 ⟨rfl, f4⟩
                obtain ⟨c0, c1, c2, c3, c4, c5, c6⟩ := ex_box (f4.heap hbw (fun f => f))
                have d1' := f4.cellN d1
                go_wp2_with fail
                go_at_call 88
                refine (kv _).mono ?_
                rintro ee w5 ⟨rfl, rfl⟩
                go_wp2_with fail
                go_ret
                exact ⟨ret_int hres, fw.same f4⟩
            · obtain ⟨x, hxx⟩ : ∃ x, N.rightS p.name = x := ⟨_, rfl⟩
              have hx0 : (x != 0) = true := by rw [← hxx]; simpa using hpn
              have hx1 : (x == 0) = false := by rw [← hxx]; simpa using hpn
              have hres : Hidden (x = R) := by
                have hx2 : ¬ x = 0 := by rw [← hxx]; exact hpn
                rw [← (show _ = R from hR2), show P = _ from hdk2, hxx]
                simp [Hidden, orE, hx2]
              clear hdk2 hR2 hpn
              go_wp2_with fail
              go_at_call 40
              refine (rright_any p.name _ hxx okp.1 _).mono ?_
              rintro ee w4 ⟨rfl, f4⟩
              go_wp2_with fail
              go_ret
              exact ⟨ret_int hres, fw.same f4⟩
          · obtain rfl : i = params.length := by omega
            obtain rfl : P = 0 := by rw [show P = _ from hdkH, List.drop_length]; rfl
            have hR3 : Hidden (orE E (errS rnS cnS body) = R) := hR2
            clear hdkH hgkH hi hil hR2
            obtain ⟨V, rfl⟩ : ∃ V, V = wr := ⟨wr, rfl⟩
            have hfrV := hfr
            clear hfr
            go_wp2_with fail
            go_loopg [6] e.len (fun g jv wr => ∃ (j : Nat) (q : Exs), jv = ci (j : Int) ∧ j + q.len = e.len ∧ q.size ≤ e.size ∧ OkX q ∧ ExR w ao2 j q ∧ E = errL rnS cnS q ∧ g = q.len ∧ Fr (fun _ => False) w3 wr)
            case atStart => exact ⟨0, e, rfl, by omega, Nat.le_refl _, ok.e, he.rest, (show _ = E from hEH).symm, rfl, hfrV⟩
            case round =>
              clear c0 c1 c2 c3 c4 c5 c6 hbw fw
              obtain ⟨j, q, rfl, hln, hsz, hokq, hrw, hdq, hgq, hfr⟩ := hrel
              have hgqH : Hidden (gk = q.len) := hgq
              have hdqH : Hidden (E = errL rnS cnS q) := hdq
              have hlnH : Hidden (j + q.len = e.len) := hln
              have hbw := hfr.heap y3 (fun f => f)
              obtain ⟨c0, c1, c2, c3, c4, c5, c6⟩ := ex_box hbw
              have fw := g3.same hfr
              clear hgq hdq hln hEH
              cases q with
              | nil =>
                have hj : j = e.len := hlnH
                subst hj
                obtain rfl : E = 0 := hdqH
                have hres : Hidden (errS rnS cnS body = R) := hR3
                clear hgqH hlnH hsz hrw hR3
                go_wp2_with fail
                go_at_call 90
                refine (kb _ fw).mono ?_
                rintro ee W4 ⟨rfl, f4⟩
                go_wp2_with fail
                go_ret
                exact ⟨ret_int hres, fw.same f4⟩
              | cons h2 k2 r2 =>
                have hjl : j < e.len := by have : j + (r2.len + 1) = e.len := hlnH; omega
                obtain ⟨bb, offb, ao', cap', rfl, hL, hrow3, x0, x1, x2, x3, x4, x5, x6⟩ := hrw.next
                have x0 := fw.cellN x0
                have x1 := fw.cellN x1
                have x2 := fw.cellN x2
                have x3 := fw.cellN x3
                have x4 := fw.cellN x4
                have x5 := fw.cellN x5
                have x6 := fw.cellN x6
                have kx := expr_any h2 k2 ao' cap' _ hokq.1 hokq.2.1 (hL.keep fw)
                have hdq2 : Hidden (E = orE (orE (errH rnS cnS h2 k2.len) (errL rnS cnS k2)) (errL rnS cnS r2)) := hdqH
                generalize orE (errH rnS cnS h2 k2.len) (errL rnS cnS k2) = x at kx hdq2
                clear hdqH
                by_cases h0 : x = 0
                · subst h0
                  have hdq3 : Hidden (E = errL rnS cnS r2) := hdq2
                  clear hdq2
                  go_wp2_with fail
                  go_at_call 89
                  refine kx.mono ?_
                  rintro ee W3 ⟨rfl, f4⟩
                  go_wp2_with fail
                  go_roundg r2.len
                  case measure =>
                    have : gk = r2.len + 1 := hgqH
                    omega
                  case rel =>
                    refine ⟨j + 1, r2, by go_num, ?_, ?_, hokq.2.2, hrow3, hdq3, rfl, hfr.same f4⟩
                    · have : j + (r2.len + 1) = e.len := hlnH
                      omega
                    · simp only [Exs.size] at hsz; omega
                · have hx0 : (x != 0) = true := by simpa using h0
                  have hx1 : (x == 0) = false := by simpa using h0
                  have hres : Hidden (x = R) := by
                    have e1 : E = x := by rw [show E = _ from hdq2, orE_ne _ h0]
                    rw [← (show _ = R from hR3), e1]
                    simp [Hidden, orE, h0]
                  clear hdq2 hR3 h0
                  go_wp2_with fail
                  go_at_call 89
                  refine kx.mono ?_
                  rintro ee W3 ⟨rfl, f4⟩
                  go_wp2_with fail
                  go_ret
                  exact ⟨ret_int hres, fw.same f4⟩
    · obtain ⟨x, hxx⟩ : ∃ x, N.rightS name = x := ⟨_, rfl⟩
      have hx0 : (x != 0) = true := by rw [← hxx]; simpa using hn
      have hx1 : (x == 0) = false := by rw [← hxx]; simpa using hn
      have hres : Hidden (x = R) := by
        have hx2 : ¬ x = 0 := by rw [← hxx]; exact hn
        rw [← (show _ = R from hR1), hxx]
        simp [Hidden, orE, hdep, hx2]
      clear hR1 hn
      go_enter Tryz.func41, Tryz.ntmps41
      go_wp2_with fail
      go_at_call 86
      refine (kd _ f0).mono ?_
      rintro ee w1 ⟨rfl, f1⟩
      have y1 := f1.heap hbx (fun f => f)
      obtain ⟨c0, c1, c2, c3, c4, c5, c6⟩ := ex_box y1
      have g1 := f0.same f1
      go_wp2_with fail
      go_at_call 87
      refine (kc _ g1).mono ?_
      rintro ee w2 ⟨rfl, f2⟩
      have y2 := f2.heap y1 (fun f => f)
      obtain ⟨c0, c1, c2, c3, c4, c5, c6⟩ := ex_box y2
      have g2 := g1.same f2
      go_wp2_with fail
      go_at_call 40
      refine (rright_any name _ hxx ok.name _).mono ?_
      rintro ee w3 ⟨rfl, f3⟩
      have y3 := f3.heap y2 (fun f => f)
      obtain ⟨c0, c1, c2, c3, c4, c5, c6⟩ := ex_box y3
      have g3 := g2.same f3
      go_wp2_with fail
      go_ret
      exact ⟨ret_int hres, g3⟩
end Go.Proofs.YteijjaabngkbjaaGreatDoor.X
