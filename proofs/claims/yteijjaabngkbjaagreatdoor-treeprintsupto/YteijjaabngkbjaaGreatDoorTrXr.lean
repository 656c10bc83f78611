/- The document's Right and RightExpr; the law TreeRights. -/
import Derived.Test.YteijjaabngkbjaaGreatDoorTrX9
import Derived.Test.YteijjaabngkbjaaGreatDoorTrTAll
import Derived.Test.YteijjaabngkbjaaGreatDoorTrIn
import Derived.Test.YteijjaabngkbjaaGreatDoorTrG
namespace Go.Proofs.YteijjaabngkbjaaGreatDoor.X
open Go.RowKit Te
set_option linter.unusedSimpArgs false
set_option linter.unusedVariables false

set_option maxRecDepth 20000 in
set_option maxHeartbeats 8000000 in
theorem right_m (m : Mo) (v : Value) (w : World) (hv : MoI w m v) (ok : OkM m) (R : Int) (hR : Hidden (errM rnS cnS m = R)) :
    Calls Tryz.prog 18 #[v] w fun e w' => e = .returned (ci R) ∧ Fr (fun _ => False) w w' := by
  obtain ⟨ao, cap, aod, capd, rfl, s1, d1⟩ := hv
  obtain ⟨name, imports, decls⟩ := m
  simp only at s1 d1
  have n1 : imports.length ≤ 9223372036854775807 := by have := s1.1; have := s1.2.1; unfold maxLen at this; omega
  have n3 : decls.length ≤ 9223372036854775807 := by have := d1.1; have := d1.2.1; unfold maxLen at this; omega
  have m1 := s1.1
  have m3 := d1.1
  have hbx : Hidden ((w.alloc (.cells #[ct name, .slice ao imports.length cap, .slice aod decls.length capd] 25)).heap[w.heap.size]? = some (.cells #[ct name, .slice ao imports.length cap, .slice aod decls.length capd] 25 (0, 0))) := alloc_new _ _
  have f0 : Fr (fun _ => False) w (w.alloc (.cells #[ct name, .slice ao imports.length cap, .slice aod decls.length capd] 25)) := Fr.alloc _ _ _
  have hR1 : Hidden (orE (N.rightS name) (orE (if 16 < imports.length then 3 else 0) (orE (errI rnS imports) (orE (if 64 < decls.length then 3 else 0) (errDs rnS cnS decls)))) = R) := hR
  clear hR
  by_cases hn : N.rightS name = 0
  · by_cases h16 : 16 < imports.length
    · have hres : Hidden (3 = R) := by rw [← (show _ = R from hR1)]; simp [Hidden, orE, hn, h16]
      clear hR1
      go_enter Tryz.func18, Tryz.ntmps18
      go_wp2_with fail
      go_at_call 40
      refine (rright_any name _ hn ok.name _).mono ?_
      rintro ee w1 ⟨rfl, f1⟩
      have y1 := f1.heap hbx (fun f => f)
      have c1 : w1.cell? ⟨w.heap.size, 1, none⟩ = some (.slice ao imports.length cap) := cell_of_row _ _ 1 _ _ _ y1
      have c2 : w1.cell? ⟨w.heap.size, 2, none⟩ = some (.slice aod decls.length capd) := cell_of_row _ _ 2 _ _ _ y1
      have g1 := f0.same f1
      go_wp2_with fail
      go_ret
      exact ⟨ret_int hres, g1⟩
    · have hR2 : Hidden (orE (errI rnS imports) (orE (if 64 < decls.length then 3 else 0) (errDs rnS cnS decls)) = R) := by rw [← (show _ = R from hR1)]; simp [Hidden, orE, hn, h16]
      clear hR1
      obtain ⟨P, hP⟩ : ∃ P, errI rnS imports = P := ⟨_, rfl⟩
      obtain ⟨E, hE⟩ : ∃ E, errDs rnS cnS decls = E := ⟨_, rfl⟩
      rw [hP, hE] at hR2
      have hPH : Hidden (errI rnS imports = P) := hP
      have hEH : Hidden (errDs rnS cnS decls = E) := hE
      clear hP hE
      go_enter Tryz.func18, Tryz.ntmps18
      go_wp2_with fail
      go_at_call 40
      refine (rright_any name _ hn ok.name _).mono ?_
      rintro ee w1 ⟨rfl, f1⟩
      have y1 := f1.heap hbx (fun f => f)
      have c1 : w1.cell? ⟨w.heap.size, 1, none⟩ = some (.slice ao imports.length cap) := cell_of_row _ _ 1 _ _ _ y1
      have c2 : w1.cell? ⟨w.heap.size, 2, none⟩ = some (.slice aod decls.length capd) := cell_of_row _ _ 2 _ _ _ y1
      have g1 := f0.same f1
      go_wp2_with fail
      go_loopg [4] imports.length (fun g iv wr => ∃ (i : Nat), iv = ci (i : Int) ∧ i ≤ imports.length ∧ P = errI rnS (imports.drop i) ∧ g = imports.length - i ∧ Fr (fun _ => False) w1 wr)
      case atStart => exact ⟨0, rfl, by omega, (show _ = P from hPH).symm, rfl, Fr.refl _ _⟩
      case round =>
        obtain ⟨i, rfl, hi, hdk, hgk, hfr⟩ := hrel
        have hgkH : Hidden (gk = imports.length - i) := hgk
        have hdkH : Hidden (P = errI rnS (imports.drop i)) := hdk
        clear c1 c2
        have hbw := hfr.heap y1 (fun f => f)
        have c1 : wr.cell? ⟨w.heap.size, 1, none⟩ = some (.slice ao imports.length cap) := cell_of_row _ _ 1 _ _ _ hbw
        have c2 : wr.cell? ⟨w.heap.size, 2, none⟩ = some (.slice aod decls.length capd) := cell_of_row _ _ 2 _ _ _ hbw
        have fw := g1.same hfr
        clear hgk hdk hPH
        by_cases hil : i < imports.length
        · obtain ⟨p, hp'⟩ : ∃ p, imports[i]? = some p := ⟨imports[i], List.getElem?_eq_getElem hil⟩
          have okp := ok.imports p (List.mem_of_getElem? hp')
          rcases s1.2.2 with h0 | ⟨b, off, rfl, hc⟩
          · rw [h0] at hil; simp at hil
          have d0 := fw.cellN (hc i p hp')
          have hdk2 : Hidden (P = orE (N.rightS p) (errI rnS (imports.drop (i + 1)))) := by
            show P = _
            rw [show P = _ from hdkH, drop_at hp']
            rfl
          clear hdkH hc
          by_cases hpn : N.rightS p = 0
          · have hdk3 : Hidden (P = errI rnS (imports.drop (i + 1))) := by rw [show P = _ from hdk2]; simp [Hidden, orE, hpn]
            clear hdk2
            go_wp2_with fail
            go_at_call 40
            refine (rright_any p _ hpn okp _).mono ?_
            rintro ee w4 ⟨rfl, f4⟩
            go_wp2_with fail
            go_roundg (imports.length - (i + 1))
            case measure =>
              have : gk = imports.length - i := hgkH
              omega
            case rel => exact ⟨i + 1, by go_num, by omega, hdk3, rfl, hfr.same f4⟩
          · obtain ⟨x, hxx⟩ : ∃ x, N.rightS p = x := ⟨_, rfl⟩
            have hx0 : (x != 0) = true := by rw [← hxx]; simpa using hpn
            have hx1 : (x == 0) = false := by rw [← hxx]; simpa using hpn
            have hres : Hidden (x = R) := by
              have hx2 : ¬ x = 0 := by rw [← hxx]; exact hpn
              rw [← (show _ = R from hR2), show P = _ from hdk2, hxx]
              simp [Hidden, orE, hx2]
            clear hdk2 hR2 hpn
            go_wp2_with fail
            go_at_call 40
            refine (rright_any p _ hxx okp _).mono ?_
            rintro ee w4 ⟨rfl, f4⟩
            go_wp2_with fail
            go_ret
            exact ⟨ret_int hres, fw.same f4⟩
        · obtain rfl : i = imports.length := by omega
          obtain rfl : P = 0 := by rw [show P = _ from hdkH, List.drop_length]; rfl
          have hR3 : Hidden (orE (if 64 < decls.length then 3 else 0) E = R) := hR2
          clear hdkH hgkH hi hil hR2
          by_cases h64 : 64 < decls.length
          · have hres : Hidden (3 = R) := by rw [← (show _ = R from hR3)]; simp [Hidden, orE, h64]
            clear hR3
            go_wp2_with fail
            go_ret
            exact ⟨ret_int hres, fw⟩
          · have hR4 : Hidden (E = R) := by rw [← (show _ = R from hR3)]; simp [Hidden, orE, h64]
            clear hR3
            obtain ⟨V, rfl⟩ : ∃ V, V = wr := ⟨wr, rfl⟩
            have hfrV := hfr
            clear hfr
            go_wp2_with fail
            go_loopg [6] decls.length (fun g iv wr => ∃ (i : Nat), iv = ci (i : Int) ∧ i ≤ decls.length ∧ E = errDs rnS cnS (decls.drop i) ∧ g = decls.length - i ∧ Fr (fun _ => False) w1 wr)
            case atStart => exact ⟨0, rfl, by omega, (show _ = E from hEH).symm, rfl, hfrV⟩
            case round =>
              clear c1 c2 hbw fw
              obtain ⟨i, rfl, hi, hdk, hgk, hfr⟩ := hrel
              have hgkH : Hidden (gk = decls.length - i) := hgk
              have hdkH : Hidden (E = errDs rnS cnS (decls.drop i)) := hdk
              have hbw := hfr.heap y1 (fun f => f)
              have c1 : wr.cell? ⟨w.heap.size, 1, none⟩ = some (.slice ao imports.length cap) := cell_of_row _ _ 1 _ _ _ hbw
              have c2 : wr.cell? ⟨w.heap.size, 2, none⟩ = some (.slice aod decls.length capd) := cell_of_row _ _ 2 _ _ _ hbw
              have fw := g1.same hfr
              clear hgk hdk hEH
              by_cases hil : i < decls.length
              · obtain ⟨x, hx⟩ : ∃ x, decls[i]? = some x := ⟨decls[i], List.getElem?_eq_getElem hil⟩
                have okx := ok.decls x (List.mem_of_getElem? hx)
                rcases d1.2.2 with h0 | ⟨b, off, rfl, hc⟩
                · rw [h0] at hil; simp at hil
                obtain ⟨pv, ev, bv, hI, hcc⟩ := hc i x hx
                have d0 := fw.cellN (hcc 0 _ rfl)
                have d1 := fw.cellN (hcc 1 _ rfl)
                have d2 := fw.cellN (hcc 2 _ rfl)
                have d3 := fw.cellN (hcc 3 _ rfl)
                have d4 := fw.cellN (hcc 4 _ rfl)
                have d5 := fw.cellN (hcc 5 _ rfl)
                have d6 := fw.cellN (hcc 6 _ rfl)
                simp only [Nat.add_zero] at d0
                have kd := de_any x pv ev bv wr (hI.keep fw) okx _ rfl
                obtain ⟨a1, p1, a2, p2, a3, p3, rfl, rfl, rfl, _⟩ := hI
                have hdk2 : Hidden (E = orE (errD rnS cnS x) (errDs rnS cnS (decls.drop (i + 1)))) := by
                  show E = _
                  rw [show E = _ from hdkH, drop_at hx]
                  rfl
                generalize errD rnS cnS x = z at kd hdk2
                clear hdkH hx hc hcc
                by_cases hz : z = 0
                · subst hz
                  have hdk3 : Hidden (E = errDs rnS cnS (decls.drop (i + 1))) := hdk2
                  clear hdk2
                  go_wp2_with fail
                  go_at_call 41
                  refine kd.mono ?_
                  rintro ee w4 ⟨rfl, f4⟩
                  go_wp2_with fail
                  go_roundg (decls.length - (i + 1))
                  case measure =>
                    have : gk = decls.length - i := hgkH
                    omega
                  case rel => exact ⟨i + 1, by go_num, by omega, hdk3, rfl, hfr.same f4⟩
                · have hx0 : (z != 0) = true := by simpa using hz
                  have hx1 : (z == 0) = false := by simpa using hz
                  have hres : Hidden (z = R) := by
                    rw [← (show _ = R from hR4), show E = _ from hdk2]
                    simp [Hidden, orE, hz]
                  clear hdk2 hR4 hz
                  go_wp2_with fail
                  go_at_call 41
                  refine kd.mono ?_
                  rintro ee w4 ⟨rfl, f4⟩
                  go_wp2_with fail
                  go_ret
                  exact ⟨ret_int hres, fw.same f4⟩
              · obtain rfl : i = decls.length := by omega
                have hres : Hidden (0 = R) := by
                  rw [← (show _ = R from hR4), show E = _ from hdkH, List.drop_length]
                  exact rfl
                clear hdkH hR4
                go_wp2_with fail
                go_ret
                exact ⟨ret_int hres, fw⟩
  · obtain ⟨x, hxx⟩ : ∃ x, N.rightS name = x := ⟨_, rfl⟩
    have hx0 : (x != 0) = true := by rw [← hxx]; simpa using hn
    have hx1 : (x == 0) = false := by rw [← hxx]; simpa using hn
    have hres : Hidden (x = R) := by
      have hx2 : ¬ x = 0 := by rw [← hxx]; exact hn
      rw [← (show _ = R from hR1), hxx]
      simp [Hidden, orE, hx2]
    clear hR1 hn
    go_enter Tryz.func18, Tryz.ntmps18
    go_wp2_with fail
    go_at_call 40
    refine (rright_any name _ hxx ok.name _).mono ?_
    rintro ee w1 ⟨rfl, f1⟩
    have y1 := f1.heap hbx (fun f => f)
    have c1 : w1.cell? ⟨w.heap.size, 1, none⟩ = some (.slice ao imports.length cap) := cell_of_row _ _ 1 _ _ _ y1
    have c2 : w1.cell? ⟨w.heap.size, 2, none⟩ = some (.slice aod decls.length capd) := cell_of_row _ _ 2 _ _ _ y1
    have g1 := f0.same f1
    go_wp2_with fail
    go_ret
    exact ⟨ret_int hres, g1⟩
end Go.Proofs.YteijjaabngkbjaaGreatDoor.X
namespace Go.Proofs.YteijjaabngkbjaaGreatDoor
open Go.RowKit Te
set_option linter.unusedSimpArgs false
set_option linter.unusedVariables false
end Go.Proofs.YteijjaabngkbjaaGreatDoor
