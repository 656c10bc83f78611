/- Interfaces that are alike, that are right; lists of texts that are. -/
import Derived.Test.YtpjahcncknccdaaGreatTyG
import Derived.Test.YtpjahcncknccdaaGreatTyD2
import Derived.Test.YtpjahcncknccdaaGreatNzC
namespace Go.Proofs.YtpjahcncknccdaaGreat.Ty
open Go.RowKit
set_option linter.unusedSimpArgs false
set_option linter.unusedVariables false


set_option maxRecDepth 20000 in
set_option maxHeartbeats 4000000 in
theorem equalItems (l1 l2 : List It) (ao bo : Option Addr) (ca cb : Nat) (w : World) (h1 : ItL w ao ca l1) (h2 : ItL w bo cb l2) (R : Bool) (hR : Hidden (decide (l1 = l2) = R)) :
    Calls Tryz.prog 29 #[.slice ao l1.length ca, .slice bo l2.length cb, .func (.func 30) #[] #[]] w fun e w' => e = .returned (.bool R) ∧ Fr (fun _ => False) w w' := by
  have m1 := h1.1
  have m2 : ca ≤ 9223372036854775807 := by have := h1.2.1; unfold maxLen at this; omega
  have m3 := h2.1
  have m4 : cb ≤ 9223372036854775807 := by have := h2.2.1; unfold maxLen at this; omega
  have h1H : Hidden (ItL w ao ca l1) := h1
  have h2H : Hidden (ItL w bo cb l2) := h2
  clear h1 h2
  by_cases hlen : l1.length = l2.length
  · have hne : ((l1.length : Int) != (l2.length : Int)) = false := by simp [hlen]
    have hlenH : Hidden (l1.length = l2.length) := hlen
    clear hlen
    go_enter Tryz.func29, Tryz.ntmps29
    go_wp2_with fail
    go_loopg [17] l1.length (fun g iv wr => ∃ j : Nat, iv = ci (j : Int) ∧ j ≤ l1.length ∧ g = l1.length - j ∧ Fr (fun _ => False) w wr ∧ l1.take j = l2.take j)
    case atStart => exact ⟨0, rfl, by omega, rfl, Fr.refl _ _, rfl⟩
    case round =>
      obtain ⟨j, rfl, hj, hgk, hfr, hT⟩ := hrel
      have hgkH : Hidden (gk = l1.length - j) := hgk
      have hfrH : Hidden (Fr (fun _ => False) w wr) := hfr
      have hTH : Hidden (l1.take j = l2.take j) := hT
      clear hgk hT
      by_cases hjl : j < l1.length
      · have hjl2 : j < l2.length := by have : l1.length = l2.length := hlenH; omega
        obtain ⟨x, hx⟩ : ∃ x, l1[j]? = some x := ⟨l1[j], List.getElem?_eq_getElem hjl⟩
        obtain ⟨y, hy⟩ : ∃ y, l2[j]? = some y := ⟨l2[j], List.getElem?_eq_getElem hjl2⟩
        obtain ⟨b, off, ap, cp, rfl, hin, d0, d1, d2, d3, d4⟩ := ItL.at ((show ItL w _ ca l1 from h1H).keep hfr) hx
        obtain ⟨b', off', ap', cp', rfl, hin', c0, c1, c2, c3, c4⟩ := ItL.at ((show ItL w _ cb l2 from h2H).keep hfr) hy
        have fa := Fr.alloc (fun _ => False) wr (.cells #[ci x.kind, ct x.name, ci x.typ, .int .u64 x.bits, .slice ap x.params.length cp] 59)
        replace c0 := fa.cellN c0
        replace c1 := fa.cellN c1
        replace c2 := fa.cellN c2
        replace c3 := fa.cellN c3
        replace c4 := fa.cellN c4
        have fb := Fr.alloc (fun _ => False) (wr.alloc (.cells #[ci x.kind, ct x.name, ci x.typ, .int .u64 x.bits, .slice ap x.params.length cp] 59)) (.cells #[ci y.kind, ct y.name, ci y.typ, .int .u64 y.bits, .slice ap' y.params.length cp'] 59)
        have hix : ItI wr x (.agg #[ci x.kind, ct x.name, ci x.typ, .int .u64 x.bits, .slice ap x.params.length cp]) := ⟨ap, cp, rfl, hin⟩
        have hiy : ItI wr y (.agg #[ci y.kind, ct y.name, ci y.typ, .int .u64 y.bits, .slice ap' y.params.length cp']) := ⟨ap', cp', rfl, hin'⟩
        have ks := sameItem_any x y _ _ _ (hix.keep (fa.same fb)) (hiy.keep (fa.same fb))
        obtain ⟨x0, x1, x2, x3, x4⟩ := box5 (fb.heap (alloc_new wr (.cells #[ci x.kind, ct x.name, ci x.typ, .int .u64 x.bits, .slice ap x.params.length cp] 59)) (fun f => f))
        have hxH : Hidden (l1[j]? = some x) := hx
        have hyH : Hidden (l2[j]? = some y) := hy
        clear hin hin' hix hiy hx hy hfr
        by_cases hxy : x = y
        · rw [decide_eq_true hxy] at ks
          have hxyH : Hidden (x = y) := hxy
          clear hxy
          go_wp2_with (go_at_call 30; refine ks.mono ?_; rintro e w1 ⟨rfl, f1⟩)
          go_roundg (l1.length - (j + 1))
          case measure => have : gk = l1.length - j := hgkH; omega
          case rel =>
            refine ⟨j + 1, by go_num, by omega, rfl, ((show Fr (fun _ => False) w wr from hfrH).same (fa.same fb)).same f1, ?_⟩
            rw [List.take_add_one, List.take_add_one, show l1[j]? = some x from hxH, show l2[j]? = some y from hyH, show l1.take j = l2.take j from hTH, show x = y from hxyH]
        · rw [decide_eq_false hxy] at ks
          have hRR : Hidden (false = R) := by
            rw [← (show _ = R from hR), eq_comm, decide_eq_false_iff_not]
            intro e
            have h1 : l1[j]? = some x := hxH
            rw [e, show l2[j]? = some y from hyH] at h1
            exact hxy (Option.some.inj h1).symm
          clear hxy
          go_wp2_with (go_at_call 30; refine ks.mono ?_; rintro e w1 ⟨rfl, f1⟩)
          go_ret
          exact ⟨ret_bl hRR, ((show Fr (fun _ => False) w wr from hfrH).same (fa.same fb)).same f1⟩
      · obtain rfl : j = l1.length := by omega
        have hRR : Hidden (true = R) := by
          have h3 : l1.take l1.length = l2.take l1.length := hTH
          rw [List.take_length, show l1.length = l2.length from hlenH, List.take_length] at h3
          rw [← (show _ = R from hR), decide_eq_true h3]
          rfl
        clear hfr
        go_wp2_with fail
        go_ret
        exact ⟨ret_bl hRR, hfrH⟩
  · have hne : ((l1.length : Int) != (l2.length : Int)) = true := by simp; omega
    have hRR : Hidden (false = R) := by
      rw [← (show _ = R from hR), eq_comm, decide_eq_false_iff_not]
      exact fun e => hlen (by rw [e])
    clear hlen
    go_enter Tryz.func29, Tryz.ntmps29
    go_wp2_with fail
    go_ret
    exact ⟨ret_bl hRR, Fr.refl _ _⟩
set_option maxRecDepth 20000 in
set_option maxHeartbeats 4000000 in
theorem sameIface_any (f g : Fc) (vf vg : Value) (w : World) (hf : FcI w f vf) (hg : FcI w g vg) : Calls Tryz.prog 11 #[vf, vg] w fun e w' => e = .returned (.bool (decide (f = g))) ∧ Fr (fun _ => False) w w' := by
  obtain ⟨n1, l1⟩ := f
  obtain ⟨n2, l2⟩ := g
  obtain ⟨ao, ca, rfl, h1⟩ := hf
  obtain ⟨bo, cb, rfl, h2⟩ := hg
  simp only at h1 h2 ⊢
  have f0 : Fr (fun _ => False) w ((w.alloc (.cells #[ct n1, .slice ao l1.length ca] 24)).alloc (.cells #[ct n2, .slice bo l2.length cb] 24)) := (Fr.alloc _ _ _).same (Fr.alloc _ _ _)
  have ke := equalItems l1 l2 ao bo ca cb _ (h1.keep f0) (h2.keep f0) _ rfl
  by_cases hn : n1 = n2
  · subst hn
    rw [show decide ((⟨n1, l1⟩ : Fc) = ⟨n1, l2⟩) = decide (l1 = l2) by simp]
    generalize decide (l1 = l2) = R at ke ⊢
    go_enter Tryz.func11, Tryz.ntmps11
    go_wp2_with (go_at_call 29; refine ke.mono ?_; rintro e w1 ⟨rfl, f1⟩)
    go_ret
    exact ⟨rfl, f0.same f1⟩
  · rw [show decide ((⟨n1, l1⟩ : Fc) = ⟨n2, l2⟩) = false by simp [hn]]
    have hne : (n1 == n2) = false := by simpa using hn
    clear ke hn
    go_enter Tryz.func11, Tryz.ntmps11
    go_wp2_with fail
    go_ret
    exact ⟨rfl, f0⟩
/-- The first thing that is wrong in a list of items, behind a name. -/
def rightL : Bs → List It → Int
  | _, [] => 0
  | a, i :: r => if rightI i ≠ 0 then rightI i else if i.name = a then 20 else if i.name < a then 1 else rightL i.name r
def rightF (f : Fc) : Int := if N.rightS f.name ≠ 0 then N.rightS f.name else if 64 < f.items.length then 3 else rightL [] f.items
set_option maxRecDepth 20000 in
set_option maxHeartbeats 8000000 in
theorem rightIface_w (nm : Bs) (l : List It) (ao : Option Addr) (cap : Nat) (w : World) (h : ItL w ao cap l) (hn : OkN nm) (hok : ∀ i ∈ l, OkI i) (R : Int) (hR : Hidden (rightF ⟨nm, l⟩ = R)) :
    Calls Tryz.prog 9 #[.agg #[ct nm, .slice ao l.length cap]] w fun e w' => e = .returned (ci R) ∧ Fr (fun _ => False) w w' := by
  have f0 := Fr.alloc (fun _ => False) w (.cells #[ct nm, .slice ao l.length cap] 24)
  have kn := fun w => N.right_any nm _ rfl hn w
  have m1 := h.1
  have m2 : cap ≤ 9223372036854775807 := by have := h.2.1; unfold maxLen at this; omega
  have hH : Hidden (ItL w ao cap l) := h
  have hokH : Hidden (∀ i ∈ l, OkI i) := hok
  have hR1 : Hidden ((if N.rightS nm ≠ 0 then N.rightS nm else if 64 < l.length then 3 else rightL [] l) = R) := hR
  clear h hok hR
  generalize N.rightS nm = rn at kn hR1
  by_cases h0 : rn = 0
  · subst h0
    rw [Hidden, if_neg (by simp)] at hR1
    by_cases h64 : 64 < l.length
    · rw [if_pos h64] at hR1
      subst hR1
      have hd : decide ((64 : Int) < (l.length : Int)) = true := by simp; omega
      go_enter Tryz.func9, Tryz.ntmps9
      go_wp2_with (go_at_call 20; refine (kn _).mono ?_; rintro e w1 ⟨rfl, rfl⟩)
      go_ret
      exact ⟨rfl, f0⟩
    · rw [if_neg h64] at hR1
      have hd : decide ((64 : Int) < (l.length : Int)) = false := by simp; omega
      have hR2 : Hidden (rightL [] l = R) := hR1
      clear hR1
      go_enter Tryz.func9, Tryz.ntmps9
      go_wp2_with (go_at_call 20; refine (kn _).mono ?_; rintro e w1 ⟨rfl, hw1⟩; rw [hw1]; clear hw1)
      go_loopg [4, 21] l.length (fun g av iv wr => ∃ (j : Nat) (A : Bs), av = ct A ∧ iv = ci (j : Int) ∧ j ≤ l.length ∧ g = l.length - j ∧ Fr (fun _ => False) w wr ∧ rightL A (l.drop j) = R)
      case atStart => exact ⟨0, [], rfl, rfl, by omega, rfl, f0, hR2⟩
      case round =>
        obtain ⟨j, A, rfl, rfl, hj, hgk, hfr, hI⟩ := hrel
        have hgkH : Hidden (gk = l.length - j) := hgk
        have hfrH : Hidden (Fr (fun _ => False) w wr) := hfr
        have hIH : Hidden (rightL A (l.drop j) = R) := hI
        clear hgk hI
        by_cases hjl : j < l.length
        · obtain ⟨x, hx⟩ : ∃ x, l[j]? = some x := ⟨l[j], List.getElem?_eq_getElem hjl⟩
          have hxo := (show ∀ i ∈ l, OkI i from hokH) x (List.mem_of_getElem? hx)
          have hd2 := drop_at hx
          obtain ⟨b, off, ap, cp, rfl, hin, d0, d1, d2, d3, d4⟩ := ItL.at ((show ItL w _ cap l from hH).keep hfr) hx
          have fa := Fr.alloc (fun _ => False) wr (.cells #[ci x.kind, ct x.name, ci x.typ, .int .u64 x.bits, .slice ap x.params.length cp] 59)
          have hix : ItI wr x (.agg #[ci x.kind, ct x.name, ci x.typ, .int .u64 x.bits, .slice ap x.params.length cp]) := ⟨ap, cp, rfl, hin⟩
          have kr := rightItem_any x _ _ (hix.keep fa) hxo
          have hbx : Hidden ((wr.alloc (.cells #[ci x.kind, ct x.name, ci x.typ, .int .u64 x.bits, .slice ap x.params.length cp] 59)).heap[wr.heap.size]? = some (.cells #[ci x.kind, ct x.name, ci x.typ, .int .u64 x.bits, .slice ap x.params.length cp] 59 (0, 0))) := alloc_new _ _
          have kc := fun r h w => U.cmp_any x.name A r h w
          have hI2 : (if rightI x ≠ 0 then rightI x else if x.name = A then 20 else if x.name < A then 1 else rightL x.name (l.drop (j + 1))) = R := by
            rw [← (show _ = R from hIH), hd2]
            rfl
          generalize rightI x = rx at kr hI2
          clear hIH hx hin hix hd2 hfr kn hxo
          by_cases hrx : rx = 0
          · subst hrx
            rw [if_neg (by simp)] at hI2
            by_cases he : x.name = A
            · rw [if_pos he] at hI2
              subst hI2
              have kc0 := fun w => kc 0 (by rw [he]; exact U.cmpS_eq _) w
              clear kc he
              go_wp2_with (first
                | (go_at_call 21; refine kr.mono ?_; rintro e w2 ⟨rfl, f2⟩; obtain ⟨c0, c1, c2, c3, c4⟩ := box5 (f2.heap hbx (fun f => f)))
                | (go_at_call 22; refine (kc0 _).mono ?_; rintro e w3 ⟨rfl, hw3⟩; rw [hw3]; clear hw3))
              go_ret
              exact ⟨rfl, (show Fr (fun _ => False) w wr from hfrH).same (fa.same f2)⟩
            · rw [if_neg he] at hI2
              by_cases hlt : x.name < A
              · rw [if_pos hlt] at hI2
                subst hI2
                have kc0 := fun w => kc (-1) (U.cmpS_lt' hlt) w
                clear kc he hlt
                go_wp2_with (first
                  | (go_at_call 21; refine kr.mono ?_; rintro e w2 ⟨rfl, f2⟩; obtain ⟨c0, c1, c2, c3, c4⟩ := box5 (f2.heap hbx (fun f => f)))
                  | (go_at_call 22; refine (kc0 _).mono ?_; rintro e w3 ⟨rfl, hw3⟩; rw [hw3]; clear hw3))
                go_ret
                exact ⟨rfl, (show Fr (fun _ => False) w wr from hfrH).same (fa.same f2)⟩
              · rw [if_neg hlt] at hI2
                have hgt : A < x.name := by
                  rcases Std.lt_trichotomy x.name A with q | q | q
                  · exact absurd q hlt
                  · exact absurd q he
                  · exact q
                have kc0 := fun w => kc 1 (U.cmpS_gt hgt) w
                have hI3 : Hidden (rightL x.name (l.drop (j + 1)) = R) := hI2
                clear kc he hlt hgt hI2
                go_wp2_with (first
                  | (go_at_call 21; refine kr.mono ?_; rintro e w2 ⟨rfl, f2⟩; obtain ⟨c0, c1, c2, c3, c4⟩ := box5 (f2.heap hbx (fun f => f)))
                  | (go_at_call 22; refine (kc0 _).mono ?_; rintro e w3 ⟨rfl, hw3⟩; rw [hw3]; clear hw3))
                go_roundg (l.length - (j + 1))
                case measure => have : gk = l.length - j := hgkH; omega
                case rel => exact ⟨j + 1, x.name, rfl, by go_num, by omega, rfl, (show Fr (fun _ => False) w wr from hfrH).same (fa.same f2), hI3⟩
          · rw [if_pos hrx] at hI2
            subst hI2
            have b0 : (rx == 0) = false := by simp [hrx]
            have b1 : (rx != 0) = true := by simp [hrx]
            clear hrx kc
            go_wp2_with (go_at_call 21; refine kr.mono ?_; rintro e w2 ⟨rfl, f2⟩)
            go_ret
            exact ⟨rfl, (show Fr (fun _ => False) w wr from hfrH).same (fa.same f2)⟩
        · obtain rfl : j = l.length := by omega
          have hRR : Hidden (0 = R) := by rw [← (show _ = R from hIH), List.drop_length]; rfl
          clear hIH hfr kn
          go_wp2_with fail
          go_ret
          exact ⟨ret_ci hRR, hfrH⟩
  · rw [Hidden, if_pos h0] at hR1
    subst hR1
    have b0 : (rn == 0) = false := by simp [h0]
    have b1 : (rn != 0) = true := by simp [h0]
    clear h0
    go_enter Tryz.func9, Tryz.ntmps9
    go_wp2_with (go_at_call 20; refine (kn _).mono ?_; rintro e w1 ⟨rfl, rfl⟩)
    go_ret
    exact ⟨rfl, f0⟩
theorem rightIface_any (f : Fc) (v : Value) (w : World) (hf : FcI w f v) (hn : OkN f.name) (hok : ∀ i ∈ f.items, OkI i) : Calls Tryz.prog 9 #[v] w fun e w' => e = .returned (ci (rightF f)) ∧ Fr (fun _ => False) w w' := by
  obtain ⟨nm, l⟩ := f
  obtain ⟨ao, ca, rfl, h1⟩ := hf
  exact rightIface_w nm l ao ca w h1 hn hok _ rfl
end Go.Proofs.YtpjahcncknccdaaGreat.Ty
