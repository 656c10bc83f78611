/- Interfaces that are alike, that are right; lists of texts that are. -/
import Derived.Test.YtakkiipkmogagaaGreatTyG
import Derived.Test.YtakkiipkmogagaaGreatTyD2
import Derived.Test.YtakkiipkmogagaaGreatNzC
namespace Go.Proofs.YtakkiipkmogagaaGreat.Ty
open Go.RowKit
set_option linter.unusedSimpArgs false
set_option linter.unusedVariables false


/-- The first thing that is wrong in a list of items, behind a name. -/
def rightL : Bs → List It → Int
  | _, [] => 0
  | a, i :: r => if rightI i ≠ 0 then rightI i else if i.name = a then 20 else if i.name < a then 1 else rightL i.name r
def rightF (f : Fc) : Int := if N.rightS f.name ≠ 0 then N.rightS f.name else if 64 < f.items.length then 3 else rightL [] f.items
set_option maxRecDepth 20000 in
set_option maxHeartbeats 8000000 in
theorem rightIface_w (nm : Bs) (l : List It) (ao : Option Addr) (cap : Nat) (w : World) (h : ItL w ao cap l) (hn : OkN nm) (hok : ∀ i ∈ l, OkI i) (R : Int) (hR : Hidden (rightF ⟨nm, l⟩ = R)) :
    Calls Tryz.prog 12 #[.agg #[ct nm, .slice ao l.length cap]] w fun e w' => e = .returned (ci R) ∧ Fr (fun _ => False) w w' := by
  have f0 := Fr.alloc (fun _ => False) w (.cells #[ct nm, .slice ao l.length cap] 25)
  have kn := fun w => N.right_any nm _ rfl hn w
  have m1 := h.1
  have m2 : cap ≤ 9223372036854775807 := by have := h.2.1; unfold maxLen at this; omega
  have hH : Hidden (ItL w ao cap l) := h
  have hokH : Hidden (∀ i ∈ l, OkI i) := hok
  have hR1 : Hidden ((if N.rightS nm ≠ 0 then N.rightS nm else if 64 < l.length then 3 else rightL [] l) = R) := hR
  clear h hok hR
  generalize N.rightS nm = rn at kn hR1
  by_cases h0 : rn = 0
  · subst h0
    rw [Hidden, if_neg (by simp)] at hR1
    by_cases h64 : 64 < l.length
    · rw [if_pos h64] at hR1
      subst hR1
      have hd : decide ((64 : Int) < (l.length : Int)) = true := by simp; omega
      go_enter Tryz.func12, Tryz.ntmps12
      go_wp2_with (go_at_call 32; refine (kn _).mono ?_; rintro e w1 ⟨rfl, rfl⟩)
      go_ret
      exact ⟨rfl, f0⟩
    · rw [if_neg h64] at hR1
      have hd : decide ((64 : Int) < (l.length : Int)) = false := by simp; omega
      have hR2 : Hidden (rightL [] l = R) := hR1
      clear hR1
      go_enter Tryz.func12, Tryz.ntmps12
      go_wp2_with (go_at_call 32; refine (kn _).mono ?_; rintro e w1 ⟨rfl, hw1⟩; rw [hw1]; clear hw1)
      go_loopg [4, 21] l.length (fun g av iv wr => ∃ (j : Nat) (A : Bs), av = ct A ∧ iv = ci (j : Int) ∧ j ≤ l.length ∧ g = l.length - j ∧ Fr (fun _ => False) w wr ∧ rightL A (l.drop j) = R)
      case atStart => exact ⟨0, [], rfl, rfl, by omega, rfl, f0, hR2⟩
      case round =>
        obtain ⟨j, A, rfl, rfl, hj, hgk, hfr, hI⟩ := hrel
        have hgkH : Hidden (gk = l.length - j) := hgk
        have hfrH : Hidden (Fr (fun _ => False) w wr) := hfr
        have hIH : Hidden (rightL A (l.drop j) = R) := hI
        clear hgk hI
        by_cases hjl : j < l.length
        · obtain ⟨x, hx⟩ : ∃ x, l[j]? = some x := ⟨l[j], List.getElem?_eq_getElem hjl⟩
          have hxo := (show ∀ i ∈ l, OkI i from hokH) x (List.mem_of_getElem? hx)
          have hd2 := drop_at hx
          obtain ⟨b, off, ap, cp, rfl, hin, d0, d1, d2, d3, d4⟩ := ItL.at ((show ItL w _ cap l from hH).keep hfr) hx
          have fa := Fr.alloc (fun _ => False) wr (.cells #[ci x.kind, ct x.name, ci x.typ, .int .u64 x.bits, .slice ap x.params.length cp] 47)
          have hix : ItI wr x (.agg #[ci x.kind, ct x.name, ci x.typ, .int .u64 x.bits, .slice ap x.params.length cp]) := ⟨ap, cp, rfl, hin⟩
          have kr := rightItem_any x _ _ (hix.keep fa) hxo
          have hbx : Hidden ((wr.alloc (.cells #[ci x.kind, ct x.name, ci x.typ, .int .u64 x.bits, .slice ap x.params.length cp] 47)).heap[wr.heap.size]? = some (.cells #[ci x.kind, ct x.name, ci x.typ, .int .u64 x.bits, .slice ap x.params.length cp] 47 (0, 0))) := alloc_new _ _
          have kc := fun r h w => U.cmp_any x.name A r h w
          have hI2 : (if rightI x ≠ 0 then rightI x else if x.name = A then 20 else if x.name < A then 1 else rightL x.name (l.drop (j + 1))) = R := by
            rw [← (show _ = R from hIH), hd2]
            rfl
          generalize rightI x = rx at kr hI2
          clear hIH hx hin hix hd2 hfr kn hxo
          by_cases hrx : rx = 0
          · subst hrx
            rw [if_neg (by simp)] at hI2
            by_cases he : x.name = A
            · rw [if_pos he] at hI2
              subst hI2
              have kc0 := fun w => kc 0 (by rw [he]; exact U.cmpS_eq _) w
              clear kc he
              go_wp2_with (first
                | (go_at_call 33; refine kr.mono ?_; rintro e w2 ⟨rfl, f2⟩; obtain ⟨c0, c1, c2, c3, c4⟩ := box5 (f2.heap hbx (fun f => f)))
                | (go_at_call 34; refine (kc0 _).mono ?_; rintro e w3 ⟨rfl, hw3⟩; rw [hw3]; clear hw3))
              go_ret
              exact ⟨rfl, (show Fr (fun _ => False) w wr from hfrH).same (fa.same f2)⟩
            · rw [if_neg he] at hI2
              by_cases hlt : x.name < A
              · rw [if_pos hlt] at hI2
                subst hI2
                have kc0 := fun w => kc (-1) (U.cmpS_lt' hlt) w
                clear kc he hlt
                go_wp2_with (first
                  | (go_at_call 33; refine kr.mono ?_; rintro e w2 ⟨rfl, f2⟩; obtain ⟨c0, c1, c2, c3, c4⟩ := box5 (f2.heap hbx (fun f => f)))
                  | (go_at_call 34; refine (kc0 _).mono ?_; rintro e w3 ⟨rfl, hw3⟩; rw [hw3]; clear hw3))
                go_ret
                exact ⟨rfl, (show Fr (fun _ => False) w wr from hfrH).same (fa.same f2)⟩
              · rw [if_neg hlt] at hI2
                have hgt : A < x.name := by
                  rcases Std.lt_trichotomy x.name A with q | q | q
                  · exact absurd q hlt
                  · exact absurd q he
                  · exact q
                have kc0 := fun w => kc 1 (U.cmpS_gt hgt) w
                have hI3 : Hidden (rightL x.name (l.drop (j + 1)) = R) := hI2
                clear kc he hlt hgt hI2
                go_wp2_with (first
                  | (go_at_call 33; refine kr.mono ?_; rintro e w2 ⟨rfl, f2⟩; obtain ⟨c0, c1, c2, c3, c4⟩ := box5 (f2.heap hbx (fun f => f)))
                  | (go_at_call 34; refine (kc0 _).mono ?_; rintro e w3 ⟨rfl, hw3⟩; rw [hw3]; clear hw3))
                go_roundg (l.length - (j + 1))
                case measure => have : gk = l.length - j := hgkH; omega
                case rel => exact ⟨j + 1, x.name, rfl, by go_num, by omega, rfl, (show Fr (fun _ => False) w wr from hfrH).same (fa.same f2), hI3⟩
          · rw [if_pos hrx] at hI2
            subst hI2
            have b0 : (rx == 0) = false := by simp [hrx]
            have b1 : (rx != 0) = true := by simp [hrx]
            clear hrx kc
            go_wp2_with (go_at_call 33; refine kr.mono ?_; rintro e w2 ⟨rfl, f2⟩)
            go_ret
            exact ⟨rfl, (show Fr (fun _ => False) w wr from hfrH).same (fa.same f2)⟩
        · obtain rfl : j = l.length := by omega
          have hRR : Hidden (0 = R) := by rw [← (show _ = R from hIH), List.drop_length]; rfl
          clear hIH hfr kn
          go_wp2_with fail
          go_ret
          exact ⟨ret_ci hRR, hfrH⟩
  · rw [Hidden, if_pos h0] at hR1
    subst hR1
    have b0 : (rn == 0) = false := by simp [h0]
    have b1 : (rn != 0) = true := by simp [h0]
    clear h0
    go_enter Tryz.func12, Tryz.ntmps12
    go_wp2_with (go_at_call 32; refine (kn _).mono ?_; rintro e w1 ⟨rfl, rfl⟩)
    go_ret
    exact ⟨rfl, f0⟩
theorem rightIface_any (f : Fc) (v : Value) (w : World) (hf : FcI w f v) (hn : OkN f.name) (hok : ∀ i ∈ f.items, OkI i) : Calls Tryz.prog 12 #[v] w fun e w' => e = .returned (ci (rightF f)) ∧ Fr (fun _ => False) w w' := by
  obtain ⟨nm, l⟩ := f
  obtain ⟨ao, ca, rfl, h1⟩ := hf
  exact rightIface_w nm l ao ca w h1 hn hok _ rfl
end Go.Proofs.YtakkiipkmogagaaGreat.Ty
