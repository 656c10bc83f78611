/- The document's look at an interface. -/
import Derived.Test.YtakkiipkmogagaaGreatIdJ
namespace Go.Proofs.YtakkiipkmogagaaGreat.Fo.Ic
open Go.RowKit Te
set_option linter.unusedSimpArgs false
set_option linter.unusedVariables false
set_option maxRecDepth 20000
theorem right_some {n : Ty.Bs} (h : N.rightS n = 0) : n ≠ [] := by
  rintro rfl
  exact absurd h (by decide)
theorem right_name {i : Ty.It} (h : Ty.rightI i = 0) : N.rightS i.name = 0 := by
  unfold Ty.rightI at h
  split at h
  · exact absurd h (by decide)
  · split at h
    · rename_i q; exact absurd h q
    · rename_i q; simpa using q
theorem nil_low (s : Ty.Bs) : ¬ s < [] := by simp
/-- What stands ahead of item j. -/
def Ahead (l : List Ty.It) (j : Nat) (A : Ty.Bs) : Prop := (j = 0 ∧ A = []) ∨ (0 < j ∧ ∃ p, l[j - 1]? = some p ∧ p.name = A)
set_option maxHeartbeats 4000000 in
theorem rrightIface_w (nm : Ty.Bs) (l : List Ty.It) (ao : Option Addr) (cap : Nat) (w : World) (h : Ty.ItL w ao cap l) (hn : Ty.OkN nm) (hok : ∀ i ∈ l, Ty.OkI i) (R : Int) (hR : Hidden (Ty.rightF ⟨nm, l⟩ = R)) :
    Calls Tryz.prog 22 #[.agg #[ct nm, .slice ao l.length cap]] w fun e w' => e = .returned (ci R) ∧ Fr FN w w' := by
  obtain ⟨W0, hW0⟩ : ∃ W, W = w.alloc (.cells #[ct nm, .slice ao l.length cap] 25) := ⟨_, rfl⟩
  have f0 : Fr FN w W0 := by rw [hW0]; exact Fr.alloc _ _ _
  have hA : Hidden (W0.heap[w.heap.size]? = some (.cells #[ct nm, .slice ao l.length cap] 25 (0, 0))) := by rw [hW0]; exact alloc_new _ _
  have hW0H : Hidden (W0 = _) := hW0
  have kn := fun w => (N.rright_any nm _ rfl hn w).mono (fun e w' h => (⟨h.1, Ty.n_fr h.2⟩ : _ ∧ Fr FN w w'))
  have m1 := h.1
  have m2 : cap ≤ 9223372036854775807 := by have := h.2.1; unfold maxLen at this; omega
  have hH : Hidden (Ty.ItL W0 ao cap l) := h.keep f0
  have hokH : Hidden (∀ i ∈ l, Ty.OkI i) := hok
  have hR1 : Hidden ((if N.rightS nm ≠ 0 then N.rightS nm else if 64 < l.length then 3 else Ty.rightL [] l) = R) := hR
  have f0H : Hidden (Fr FN w W0) := f0
  clear h hok hR hW0 f0
  obtain ⟨c0, c1⟩ := Ty.box2 (show W0.heap[_]? = _ from hA)
  generalize N.rightS nm = rn at kn hR1
  by_cases h0 : rn = 0
  · subst h0
    rw [Hidden, if_neg (by simp)] at hR1
    by_cases h64 : 64 < l.length
    · rw [if_pos h64] at hR1
      subst hR1
      have hd : decide ((64 : Int) < (l.length : Int)) = true := by simp; omega
      go_enter Tryz.func22, Tryz.ntmps22
      go_wp2_with fail
      rw [← (show W0 = _ from hW0H)]
      go_wp2_with (go_at_call 43; refine (kn _).mono ?_; rintro e w1 ⟨rfl, f1⟩; obtain ⟨c0, c1⟩ := Ty.box2 (f1.heap (show W0.heap[_]? = _ from hA) (fun f => f)))
      go_ret
      exact ⟨rfl, (show Fr FN w W0 from f0H).same f1⟩
    · rw [if_neg h64] at hR1
      have hd : decide ((64 : Int) < (l.length : Int)) = false := by simp; omega
      have hR2 : Hidden (Ty.rightL [] l = R) := hR1
      clear hR1
      go_enter Tryz.func22, Tryz.ntmps22
      go_wp2_with fail
      rw [← (show W0 = _ from hW0H)]
      go_wp2_with (go_at_call 43; refine (kn _).mono ?_; rintro e w1 ⟨rfl, f1⟩; obtain ⟨c0, c1⟩ := Ty.box2 (f1.heap (show W0.heap[_]? = _ from hA) (fun f => f)))
      go_loopg [4] l.length (fun g iv wr => ∃ (j : Nat) (A : Ty.Bs), iv = ci (j : Int) ∧ j ≤ l.length ∧ g = l.length - j ∧ Fr FN W0 wr ∧ Ahead l j A ∧ Ty.rightL A (l.drop j) = R)
      case atStart => exact ⟨0, [], rfl, by omega, rfl, f1, Or.inl ⟨rfl, rfl⟩, hR2⟩
      case round =>
        obtain ⟨j, A, rfl, hj, hgk, hfr, hah, hI⟩ := hrel
        have hgkH : Hidden (gk = l.length - j) := hgk
        have hfrH : Hidden (Fr FN W0 wr) := hfr
        have hIH : Hidden (Ty.rightL A (l.drop j) = R) := hI
        obtain ⟨b0, b1⟩ := Ty.box2 (hfr.heap (show W0.heap[_]? = _ from hA) (fun f => f))
        clear hgk hI c0 c1
        by_cases hjl : j < l.length
        · obtain ⟨x, hx⟩ : ∃ x, l[j]? = some x := ⟨l[j], List.getElem?_eq_getElem hjl⟩
          have hxo := (show ∀ i ∈ l, Ty.OkI i from hokH) x (List.mem_of_getElem? hx)
          have hd2 := Ty.drop_at hx
          obtain ⟨b, off, ap, cp, rfl, hin, d0, d1, d2, d3, d4⟩ := Ty.ItL.at ((show Ty.ItL W0 _ cap l from hH).keep hfr) hx
          have hix : Ty.ItI wr x (.agg #[ci x.kind, ct x.name, ci x.typ, .int .u64 x.bits, .slice ap x.params.length cp]) := ⟨ap, cp, rfl, hin⟩
          have kr := Ty.rrightItem_any x _ _ hix hxo
          have hI2 : (if Ty.rightI x ≠ 0 then Ty.rightI x else if x.name = A then 20 else if x.name < A then 1 else Ty.rightL x.name (l.drop (j + 1))) = R := by
            rw [← (show _ = R from hIH), hd2]
            rfl
          by_cases hrx : Ty.rightI x = 0
          · rw [if_neg (by simpa using hrx)] at hI2
            rw [hrx] at kr
            have hne0 : x.name ≠ [] := right_some (right_name hrx)
            rcases hah with ⟨hj0, rfl⟩ | ⟨hj0, p, hp, rfl⟩
            · have hI3 : Hidden (Ty.rightL x.name (l.drop (j + 1)) = R) := by
                rw [if_neg hne0, if_neg (nil_low _)] at hI2
                exact hI2
              have hxH : Hidden (l[j]? = some x) := hx
              clear hI2 hIH hx hin hix hd2 hfr kn hxo hrx hne0 f1
              have hg0 : decide ((0 : Int) < (j : Int)) = false := by simp [hj0]
              have hg1 : decide (0 < j) = false := by simp [hj0]
              have hg2 : ¬ 0 < j := by omega
              have hj0H : Hidden (j = 0) := hj0
              clear hj0
              go_wp2_with (go_at_call 44; refine kr.mono ?_; rintro e w2 ⟨rfl, f2⟩; obtain ⟨b0, b1⟩ := Ty.box2 (f2.heap (show wr.heap[_]? = _ from (show Fr FN W0 wr from hfrH).heap (show W0.heap[_]? = _ from hA) (fun f => f)) (fun f => f)))
              go_quiet (fail)
              go_wp2_with fail
              go_quiet (fail)
              go_wp2_with fail
              go_roundg (l.length - (j + 1))
              case measure => have : gk = l.length - j := hgkH; omega
              case rel => exact ⟨j + 1, x.name, by go_num, by omega, rfl, Ty.drewN_fr ((show Fr FN W0 wr from hfrH).same f2) _, Or.inr ⟨by omega, x, hxH, rfl⟩, hI3⟩
            · obtain ⟨b', off', ap', cp', hbb, _, _, e1, _⟩ := Ty.ItL.at ((show Ty.ItL W0 _ cap l from hH).keep hfr) hp
              obtain ⟨rfl, rfl⟩ : b = b' ∧ off = off' := by simpa using hbb
              have hxH : Hidden (l[j]? = some x) := hx
              have e1H : Hidden (wr.cell? ⟨b, off + (j - 1) * 5 + 1, none⟩ = some (ct p.name)) := e1
              have d1H : Hidden (wr.cell? ⟨b, off + j * 5 + 1, none⟩ = some (ct x.name)) := d1
              have hpo := (show ∀ i ∈ l, Ty.OkI i from hokH) p (List.mem_of_getElem? hp)
              have kc := fun r h w => U.rcmp_q x.name p.name r h (hxo.name) (hpo.name) w
              have hg0 : decide ((0 : Int) < (j : Int)) = true := by simp; omega
              have hj1 : (j : Int) - 1 = ((j - 1 : Nat) : Int) := by omega
              have hj2 : IntKind.i64.wrap ((j - 1 : Nat) : Int) = ((j - 1 : Nat) : Int) := by rw [IntKind.wrap_i64]; omega
              clear hIH hx hin hix hd2 hfr kn hxo hrx hne0 f1 hbb hpo hp e1
              by_cases he : x.name = p.name
              · rw [if_pos he] at hI2
                subst hI2
                have hee : (x.name == p.name) = true := by simpa using he
                clear kc he
                go_wp2_with (go_at_call 44; refine kr.mono ?_; rintro e w2 ⟨rfl, f2⟩; obtain ⟨b0, b1⟩ := Ty.box2 (f2.heap (show wr.heap[_]? = _ from (show Fr FN W0 wr from hfrH).heap (show W0.heap[_]? = _ from hA) (fun f => f)) (fun f => f)); have g1 := f2.cell (show wr.cell? _ = _ from e1H) (fun f => f); have g2 := f2.cell (show wr.cell? _ = _ from d1H) (fun f => f))
                go_quiet (fail)
                go_wp2_with fail
                go_ret
                exact ⟨rfl, (show Fr FN w W0 from f0H).same (Ty.drewN_fr ((show Fr FN W0 wr from hfrH).same f2) _)⟩
              · rw [if_neg he] at hI2
                have hee : (x.name == p.name) = false := by simpa using he
                by_cases hlt : x.name < p.name
                · rw [if_pos hlt] at hI2
                  subst hI2
                  have kc0 : ∀ u : World, Calls Tryz.prog 45 #[ct x.name, ct p.name] u fun e w' => e = .returned (ci (-1)) ∧ ∃ m, w' = u.drewN m := fun u => kc (-1) (U.cmpS_lt' hlt) u
                  clear kc he hlt
                  go_wp2_with (go_at_call 44; refine kr.mono ?_; rintro e w2 ⟨rfl, f2⟩; obtain ⟨b0, b1⟩ := Ty.box2 (f2.heap (show wr.heap[_]? = _ from (show Fr FN W0 wr from hfrH).heap (show W0.heap[_]? = _ from hA) (fun f => f)) (fun f => f)); have g1 := f2.cell (show wr.cell? _ = _ from e1H) (fun f => f); have g2 := f2.cell (show wr.cell? _ = _ from d1H) (fun f => f))
                  go_quiet (fail)
                  go_wp2_with fail
                  have fq : Fr FN wr (w2.drewN nq) := Ty.drewN_fr f2 _
                  clear g1 g2 b0 b1
                  generalize w2.drewN nq = w3 at fq ⊢
                  have g1 := fq.cell (show wr.cell? _ = _ from e1H) (fun f => f)
                  have g2 := fq.cell (show wr.cell? _ = _ from d1H) (fun f => f)
                  obtain ⟨b0, b1⟩ := Ty.box2 (fq.heap (show wr.heap[_]? = _ from (show Fr FN W0 wr from hfrH).heap (show W0.heap[_]? = _ from hA) (fun f => f)) (fun f => f))
                  go_quiet ((go_at_call 45; exact Calls.quiet_of (kc0 _)))
                  go_wp2_with fail
                  go_ret
                  exact ⟨rfl, (show Fr FN w W0 from f0H).same (Ty.drewN_fr ((show Fr FN W0 wr from hfrH).same fq) _)⟩
                · rw [if_neg hlt] at hI2
                  have hgt : p.name < x.name := by
                    rcases Std.lt_trichotomy x.name p.name with q | q | q
                    · exact absurd q hlt
                    · exact absurd q he
                    · exact q
                  have kc0 : ∀ u : World, Calls Tryz.prog 45 #[ct x.name, ct p.name] u fun e w' => e = .returned (ci 1) ∧ ∃ m, w' = u.drewN m := fun u => kc 1 (U.cmpS_gt hgt) u
                  have hI3 : Hidden (Ty.rightL x.name (l.drop (j + 1)) = R) := hI2
                  clear kc he hlt hgt hI2
                  go_wp2_with (go_at_call 44; refine kr.mono ?_; rintro e w2 ⟨rfl, f2⟩; obtain ⟨b0, b1⟩ := Ty.box2 (f2.heap (show wr.heap[_]? = _ from (show Fr FN W0 wr from hfrH).heap (show W0.heap[_]? = _ from hA) (fun f => f)) (fun f => f)); have g1 := f2.cell (show wr.cell? _ = _ from e1H) (fun f => f); have g2 := f2.cell (show wr.cell? _ = _ from d1H) (fun f => f))
                  go_quiet (fail)
                  go_wp2_with fail
                  have fq : Fr FN wr (w2.drewN nq) := Ty.drewN_fr f2 _
                  clear g1 g2 b0 b1
                  generalize w2.drewN nq = w3 at fq ⊢
                  have g1 := fq.cell (show wr.cell? _ = _ from e1H) (fun f => f)
                  have g2 := fq.cell (show wr.cell? _ = _ from d1H) (fun f => f)
                  obtain ⟨b0, b1⟩ := Ty.box2 (fq.heap (show wr.heap[_]? = _ from (show Fr FN W0 wr from hfrH).heap (show W0.heap[_]? = _ from hA) (fun f => f)) (fun f => f))
                  go_quiet ((go_at_call 45; exact Calls.quiet_of (kc0 _)))
                  go_wp2_with fail
                  go_roundg (l.length - (j + 1))
                  case measure => have : gk = l.length - j := hgkH; omega
                  case rel => exact ⟨j + 1, x.name, by go_num, by omega, rfl, Ty.drewN_fr ((show Fr FN W0 wr from hfrH).same fq) _, Or.inr ⟨by omega, x, hxH, rfl⟩, hI3⟩
          · rw [if_pos hrx] at hI2
            have b0' : (Ty.rightI x == 0) = false := by simp [hrx]
            have b1' : (Ty.rightI x != 0) = true := by simp [hrx]
            generalize Ty.rightI x = rx at kr hI2 b0' b1'
            subst hI2
            clear hrx hIH hx hin hix hd2 hfr kn hxo hah f1
            go_wp2_with (go_at_call 44; refine kr.mono ?_; rintro e w2 ⟨rfl, f2⟩)
            go_ret
            exact ⟨rfl, (show Fr FN w W0 from f0H).same ((show Fr FN W0 wr from hfrH).same f2)⟩
        · obtain rfl : j = l.length := by omega
          have hRR : Hidden (0 = R) := by rw [← (show _ = R from hIH), List.drop_length]; rfl
          clear hIH hfr kn hah f1
          go_wp2_with fail
          go_ret
          exact ⟨Ty.ret_ci hRR, (show Fr FN w W0 from f0H).same hfrH⟩
  · rw [Hidden, if_pos h0] at hR1
    subst hR1
    have b0 : (rn == 0) = false := by simp [h0]
    have b1 : (rn != 0) = true := by simp [h0]
    clear h0
    go_enter Tryz.func22, Tryz.ntmps22
    go_wp2_with fail
    rw [← (show W0 = _ from hW0H)]
    go_wp2_with (go_at_call 43; refine (kn _).mono ?_; rintro e w1 ⟨rfl, f1⟩)
    go_ret
    exact ⟨rfl, (show Fr FN w W0 from f0H).same f1⟩
theorem rrightIface_any (f : Ty.Fc) (v : Value) (w : World) (hf : Ty.FcI w f v) (hn : Ty.OkN f.name) (hok : ∀ i ∈ f.items, Ty.OkI i) : Calls Tryz.prog 22 #[v] w fun e w' => e = .returned (ci (Ty.rightF f)) ∧ Fr FN w w' := by
  obtain ⟨nm, l⟩ := f
  obtain ⟨ao, ca, rfl, h1⟩ := hf
  exact rrightIface_w nm l ao ca w h1 hn hok _ rfl
end Go.Proofs.YtakkiipkmogagaaGreat.Fo.Ic
