/- The program's look at a module; Right. -/
import Derived.Test.YtfkccanjdlajlabGreatDoorTrL5
namespace Go.Proofs.YtfkccanjdlajlabGreatDoor
open Go.RowKit Te
set_option linter.unusedSimpArgs false
set_option linter.unusedVariables false

set_option maxRecDepth 20000 in
set_option maxHeartbeats 4000000 in
theorem lookM_any (m : Mo) (v : Value) (w : World) (hok : OkM m) (hv : MoI w m v) :
    Calls Tryz.prog 37 #[v] w fun ee w' => ee = lk (errM rnS cnS m) ∧ Fr (fun _ => False) w w' := by
  obtain ⟨ao, cap, ao2, cap2, rfl, hs, hd⟩ := hv
  have f0 : Fr (fun _ => False) w (w.alloc (.cells #[ct m.name, .slice ao m.imports.length cap, .slice ao2 m.decls.length cap2] 25)) := Fr.alloc _ _ _
  have m1 : cap ≤ 9223372036854775807 := by have := hs.2.1; unfold maxLen at this; omega
  have m2 : cap2 ≤ 9223372036854775807 := by have := hd.2.1; unfold maxLen at this; omega
  have l1 := hs.1
  have l2 := hd.1
  have hE : errM rnS cnS m = orE (rnS m.name) (orE (if 16 < m.imports.length then 3 else 0) (orE (errI rnS m.imports) (orE (if 64 < m.decls.length then 3 else 0) (errDs rnS cnS m.decls)))) := rfl
  by_cases hn : rnS m.name = 0
  · by_cases h16 : m.imports.length ≤ 16
    · go_enter Tryz.func37, Tryz.ntmps37
      go_wp2_with fail
      go_at_call 63
      refine (mustName_ok m.name hn hok.name _).mono ?_
      rintro ee wz ⟨rfl, rfl⟩
      go_wp2_with fail
      go_at_call 57
      refine (must_yes _ (by first | rfl | (simp; omega)) 3 _).mono ?_
      rintro ee wz ⟨rfl, rfl⟩
      have hE2 : Hidden (errM rnS cnS m = orE (errI rnS m.imports) (orE (if 64 < m.decls.length then 3 else 0) (errDs rnS cnS m.decls))) := by
        show errM rnS cnS m = _
        rw [hE, hn, if_neg (show ¬ 16 < m.imports.length by omega)]
        rfl
      clear hE hn
      go_wp2_with fail
      go_loopg [17] m.imports.length (fun g iv wr => ∃ (i : Nat), iv = ci (i : Int) ∧ i ≤ m.imports.length ∧ errI rnS m.imports = errI rnS (m.imports.drop i) ∧ g = m.imports.length - i ∧ wr = w.alloc (.cells #[ct m.name, .slice ao m.imports.length cap, .slice ao2 m.decls.length cap2] 25))
      case atStart => exact ⟨0, rfl, by omega, by simp, rfl, rfl⟩
      case round =>
        obtain ⟨i, rfl, hi, hdk, hgk, hwr⟩ := hrel
        have hgkH : Hidden (gk = m.imports.length - i) := hgk
        have hdkH : Hidden (errI rnS m.imports = errI rnS (m.imports.drop i)) := hdk
        clear hgk hdk
        subst hwr
        by_cases hil : i < m.imports.length
        · obtain ⟨p, hpi⟩ : ∃ p, m.imports[i]? = some p := ⟨m.imports[i], List.getElem?_eq_getElem hil⟩
          rcases hs.2.2 with h0 | ⟨b, off, rfl, hcp⟩
          · rw [h0] at hil; simp at hil
          have d0 := f0.cellN (hcp i p hpi)
          have hpok := hok.imports p (List.mem_of_getElem? hpi)
          have hdk2 : Hidden (errI rnS m.imports = orE (rnS p) (errI rnS (m.imports.drop (i + 1)))) := by
            show errI rnS m.imports = _
            rw [show errI rnS m.imports = _ from hdkH, drop_at hpi]
            rfl
          by_cases hpn : rnS p = 0
          · rw [hpn] at hdk2
            go_wp2_with fail
            go_at_call 63
            refine (mustName_ok p hpn hpok _).mono ?_
            rintro ee wz ⟨rfl, rfl⟩
            go_wp2_with fail
            go_roundg (m.imports.length - (i + 1))
            case measure =>
              have : gk = m.imports.length - i := hgkH
              omega
            case rel => exact ⟨i + 1, by go_num, by omega, hdk2, rfl, rfl⟩
          · go_wp2_with fail
            go_at_call 63
            refine (mustName_no p _ rfl hpn hpok _).mono ?_
            unfold gUp
            rintro ee wz ⟨rfl, rfl⟩
            go_wp2_with fail
            refine ⟨rfl, (lk_is ⟨?_, hpn⟩).symm, f0⟩
            rw [show errM rnS cnS m = _ from hE2, show errI rnS m.imports = _ from hdk2, orE_ne _ hpn, orE_ne _ hpn]
        · obtain rfl : i = m.imports.length := by omega
          have hP : errI rnS m.imports = 0 := by rw [show errI rnS m.imports = _ from hdkH, List.drop_length]; rfl
          have hE3 : Hidden (errM rnS cnS m = orE (if 64 < m.decls.length then 3 else 0) (errDs rnS cnS m.decls)) := by
            show errM rnS cnS m = _
            rw [show errM rnS cnS m = _ from hE2, hP]
            rfl
          clear hE2 hP hdkH hgkH
          by_cases h64 : m.decls.length ≤ 64
          · have hE4 : Hidden (errM rnS cnS m = errDs rnS cnS m.decls) := by
              show errM rnS cnS m = _
              rw [show errM rnS cnS m = _ from hE3, if_neg (by omega)]
              rfl
            clear hE3
            go_wp2_with fail
            go_at_call 57
            refine (must_yes _ (by first | rfl | (simp; omega)) 3 _).mono ?_
            rintro ee wz ⟨rfl, rfl⟩
            go_wp2_with fail
            go_loopg [32] m.decls.length (fun g iv wr => ∃ (i : Nat), iv = ci (i : Int) ∧ i ≤ m.decls.length ∧ errDs rnS cnS m.decls = errDs rnS cnS (m.decls.drop i) ∧ g = m.decls.length - i ∧ Fr (fun _ => False) w wr)
            case atStart => exact ⟨0, rfl, by omega, by simp, rfl, f0⟩
            case round =>
              obtain ⟨i, rfl, hi, hdk, hgk, hfr⟩ := hrel
              have hgkH : Hidden (gk = m.decls.length - i) := hgk
              have hdkH : Hidden (errDs rnS cnS m.decls = errDs rnS cnS (m.decls.drop i)) := hdk
              clear hgk hdk
              by_cases hil : i < m.decls.length
              · obtain ⟨p, hpi⟩ : ∃ p, m.decls[i]? = some p := ⟨m.decls[i], List.getElem?_eq_getElem hil⟩
                rcases hd.2.2 with h0 | ⟨b, off, rfl, hcp⟩
                · rw [h0] at hil; simp at hil
                obtain ⟨pv, ev, bv, hI, hcc⟩ := hcp i p hpi
                have d0 := hfr.cellN (hcc 0 _ rfl)
                have d1 := hfr.cellN (hcc 1 _ rfl)
                have d2 := hfr.cellN (hcc 2 _ rfl)
                have d3 := hfr.cellN (hcc 3 _ rfl)
                have d4 := hfr.cellN (hcc 4 _ rfl)
                have d5 := hfr.cellN (hcc 5 _ rfl)
                have d6 := hfr.cellN (hcc 6 _ rfl)
                simp only [Nat.add_zero] at d0
                have hpok := hok.decls p (List.mem_of_getElem? hpi)
                have hdk2 : Hidden (errDs rnS cnS m.decls = orE (errD rnS cnS p) (errDs rnS cnS (m.decls.drop (i + 1)))) := by
                  show errDs rnS cnS m.decls = _
                  rw [show errDs rnS cnS m.decls = _ from hdkH, drop_at hpi]
                  rfl
                have f2 := hfr.same (Fr.alloc (fun _ => False) wr (.cells #[ci p.kind, .bool p.ex, ct p.name, ci p.type, pv, ev, bv] 36))
                have kc := lookD_any p pv ev bv _ hpok (hI.keep f2)
                obtain ⟨_, _, _, _, _, _, rfl, rfl, rfl, _⟩ := hI
                by_cases hpn : errD rnS cnS p = 0
                · rw [hpn] at hdk2
                  rw [hpn, lk_0] at kc
                  go_wp2_with fail
                  go_at_call 64
                  refine kc.mono ?_
                  rintro ee wz ⟨rfl, f3⟩
                  go_wp2_with fail
                  go_roundg (m.decls.length - (i + 1))
                  case measure =>
                    have : gk = m.decls.length - i := hgkH
                    omega
                  case rel => exact ⟨i + 1, by go_num, by omega, hdk2, rfl, f2.same f3⟩
                · rw [lk_ne hpn] at kc
                  unfold gUp at kc
                  go_wp2_with fail
                  go_at_call 64
                  refine kc.mono ?_
                  rintro ee wz ⟨rfl, f3⟩
                  go_wp2_with fail
                  refine ⟨rfl, (lk_is ⟨?_, hpn⟩).symm, f2.same f3⟩
                  rw [show errM rnS cnS m = _ from hE4, show errDs rnS cnS m.decls = _ from hdk2, orE_ne _ hpn]
              · obtain rfl : i = m.decls.length := by omega
                go_wp2_with fail
                go_end0
                refine ⟨?_, hfr⟩
                rw [show errM rnS cnS m = _ from hE4, show errDs rnS cnS m.decls = _ from hdkH, List.drop_length]
                rfl
          · go_wp2_with fail
            go_at_call 57
            refine (must_not _ (by first | rfl | (simp; omega)) 3 _).mono ?_
            unfold gUp
            rintro ee wz ⟨rfl, rfl⟩
            go_wp2_with fail
            refine ⟨rfl, (lk_is ⟨?_, by decide⟩).symm, f0⟩
            rw [show errM rnS cnS m = _ from hE3, if_pos (by omega)]
            rfl
    · go_enter Tryz.func37, Tryz.ntmps37
      go_wp2_with fail
      go_at_call 63
      refine (mustName_ok m.name hn hok.name _).mono ?_
      rintro ee wz ⟨rfl, rfl⟩
      go_wp2_with fail
      go_at_call 57
      refine (must_not _ (by first | rfl | (simp; omega)) 3 _).mono ?_
      unfold gUp
      rintro ee wz ⟨rfl, rfl⟩
      go_wp2_with fail
      exact ⟨rfl, (lk_is ⟨by rw [hE, hn, if_pos (show 16 < m.imports.length by omega)]; rfl, by decide⟩).symm, f0⟩
  · go_enter Tryz.func37, Tryz.ntmps37
    go_wp2_with fail
    go_at_call 63
    refine (mustName_no m.name _ rfl hn hok.name _).mono ?_
    unfold gUp
    rintro ee wz ⟨rfl, rfl⟩
    go_wp2_with fail
    exact ⟨rfl, (lk_is ⟨by rw [hE, orE_ne _ hn], hn⟩).symm, f0⟩
abbrev moO (m : Mo) (v1 v2 : Value) : Obj := .cells #[ct m.name, v1, v2] 25 (0, 0)
theorem mo_box {w : World} {b : Nat} {x0 x1 x2 : Value} {t : TypeId} (hb : w.heap[b]? = some (.cells #[x0, x1, x2] t (0, 0))) : w.cell? ⟨b, 0, none⟩ = some x0 ∧ w.cell? ⟨b, 1, none⟩ = some x1 ∧ w.cell? ⟨b, 2, none⟩ = some x2 :=
  ⟨cell_of_row _ _ 0 _ _ _ hb, cell_of_row _ _ 1 _ _ _ hb, cell_of_row _ _ 2 _ _ _ hb⟩
set_option maxRecDepth 20000 in
theorem rm1_any (m : Mo) (ao : Option Addr) (cap : Nat) (ao2 : Option Addr) (cap2 : Nat) (q : Nat) (w : World) (hok : OkM m) (hv : MoI w m (moV m ao cap ao2 cap2)) (hq : w.heap[q]? = some (moO m (.slice ao m.imports.length cap) (.slice ao2 m.decls.length cap2))) :
    Calls Tryz.prog 36 #[.pointer (some ⟨q, 0, none⟩)] w fun e w' => e = lk (errM rnS cnS m) ∧ Fr (fun _ => False) w w' := by
  obtain ⟨c0, c1, c2⟩ := mo_box hq
  have kx := lookM_any m _ w hok hv
  clear hv hq
  generalize errM rnS cnS m = E at kx
  by_cases h0 : E = 0
  · subst h0
    rw [lk_0] at kx
    go_enter Tryz.func36, Tryz.ntmps36
    go_wp2_with fail
    go_at_call 37
    refine kx.mono ?_
    rintro e w3 ⟨rfl, f3⟩
    go_wp2_with fail
    go_end0
    exact ⟨rfl, f3⟩
  · rw [lk_ne h0] at kx
    unfold gUp at kx
    go_enter Tryz.func36, Tryz.ntmps36
    go_wp2_with fail
    go_at_call 37
    refine kx.mono ?_
    rintro e w3 ⟨rfl, f3⟩
    go_wp2_with fail
    exact ⟨rfl, (lk_is ⟨rfl, h0⟩).symm, f3⟩
set_option maxRecDepth 20000 in
theorem right_any (m : Mo) (v : Value) (w : World) (hok : OkM m) (hv : MoI w m v) :
    Calls Tryz.prog 17 #[v] w fun e w' => e = .returned (ci (errM rnS cnS m)) ∧ Fr (fun _ => False) w w' := by
  have hv0 := hv
  obtain ⟨ao, cap, ao2, cap2, rfl, hs, hd⟩ := hv
  have hmf : ∀ (fn : Fn) (first cap : Array Value) (w : World), (Instr.makeFunc fn first cap).run Tryz.prog w = .ok (.func fn first cap) w := fun _ _ _ _ => rfl
  have f0 := Fr.alloc (fun _ => False) w (moO m (.slice ao m.imports.length cap) (.slice ao2 m.decls.length cap2))
  have hq : Hidden ((w.alloc (moO m (.slice ao m.imports.length cap) (.slice ao2 m.decls.length cap2))).heap[w.heap.size]? = some (moO m (.slice ao m.imports.length cap) (.slice ao2 m.decls.length cap2))) := alloc_new _ _
  have kf := fault_m ⟨w.heap.size, 0, none⟩ (errM rnS cnS m) (w.alloc (moO m (.slice ao m.imports.length cap) (.slice ao2 m.decls.length cap2))) (fun w0 f => rm1_any m ao cap ao2 cap2 w.heap.size w0 hok (hv0.keep (f0.same f)) (f.heap hq (fun f => f)))
  go_enter Tryz.func17, Tryz.ntmps17
  go_wp2_with fail
  go_at_call 35
  refine kf.mono ?_
  rintro e w1 ⟨rfl, f1⟩
  go_wp2_with fail
  go_ret
  exact ⟨rfl, f0.same f1⟩
end Go.Proofs.YtfkccanjdlajlabGreatDoor
