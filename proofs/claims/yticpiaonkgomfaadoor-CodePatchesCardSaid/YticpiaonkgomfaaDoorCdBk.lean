/- CodeBack, walked. -/
import Derived.Test.YticpiaonkgomfaaDoorCdDe
import Derived.Test.YticpiaonkgomfaaDoorCdSc
import Derived.Test.YticpiaonkgomfaaDoorCdLw
import Derived.Test.YticpiaonkgomfaaDoorCdIn
namespace Go.Proofs.YticpiaonkgomfaaDoor.Cd
open Go.RowKit Ty
set_option linter.unusedSimpArgs false
set_option linter.unusedVariables false

theorem dec_ok {b : Bs} (h : (decS b).1 = 0) : b = encS (decS b).2 ∧ (∀ i ∈ (decS b).2, rightS i = true ∧ U64 i.b) ∧ (decS b).2.length ≤ 4096 := by
  obtain ⟨l, h1, h2, h3, h4⟩ := decGo_ok (b.length + 1) [] b (decS b).2 (by omega) (by unfold decS at h ⊢; exact Prod.ext h rfl) (by simp)
  rw [List.nil_append] at h1
  rw [h1]
  rw [h1] at h4
  exact ⟨h2, h3, h4⟩
theorem dec_err {b : Bs} (h : (decS b).1 ≠ 0) : (decS b).2 = [] := decGo_err (b.length + 1) [] b (by omega) h
theorem enc_ok {l : List In} (h : (encA l).1 = 0) : encA l = (0, encS l) ∧ (∀ i ∈ l, rightS i = true) ∧ l.length ≤ 4096 := by
  unfold encA at h ⊢
  by_cases h1 : 4096 < l.length
  · rw [if_pos h1] at h; simp at h
  · rw [if_neg h1] at h ⊢
    by_cases h2 : l.all rightS = true
    · rw [if_pos h2] at h ⊢
      exact ⟨rfl, List.all_eq_true.1 h2, by omega⟩
    · rw [if_neg h2] at h; simp at h
theorem enc_err {l : List In} (h : (encA l).1 ≠ 0) : (encA l).2 = [] := by
  unfold encA at h ⊢
  by_cases h1 : 4096 < l.length
  · rw [if_pos h1]
  · rw [if_neg h1] at h ⊢
    by_cases h2 : l.all rightS = true
    · rw [if_pos h2] at h; simp at h
    · rw [if_neg h2]
theorem enc_of (ao : Option Addr) (l : List In) (hok : ∀ i ∈ l, U64 i.b) (cap : Nat) (w : World) (h : IL w ao cap l) :
    Calls Tryd.prog 21 #[.slice ao l.length cap] w fun e w' => ∃ yo cy, e = .returned (.tuple #[.slice yo (encA l).2.length cy, ci (encA l).1]) ∧ BL w' yo cy (encA l).2 ∧ Fr (fun _ => False) w w' := by
  refine (encode_any ao cap l w h hok).mono ?_
  rintro e w' ⟨v, rfl, hb, f⟩
  obtain ⟨yo, cy, rfl, hbl⟩ := hb.bl
  exact ⟨yo, cy, rfl, hbl, f⟩
theorem dec_of (ao : Option Addr) (b : Bs) (cap : Nat) (w : World) (h : BL w ao cap b) :
    Calls Tryd.prog 15 #[.slice ao b.length cap] w fun e w' => ∃ v, e = .returned (.tuple #[v, ci (decS b).1]) ∧ IW w' w.heap.size 27 v (decS b).2 ∧ Fr (fun _ => False) w w' := decode_any ao b.length cap b rfl w h
theorem size_le10 (op : Int) : sizeS op ≤ 10 := by
  have h := wd_le op
  unfold sizeS
  by_cases h1 : known op = true
  · rw [if_pos h1]
    by_cases h2 : op = 1
    · rw [if_pos h2]; omega
    · rw [if_neg h2]; omega
  · rw [if_neg h1]; omega
theorem back_plain {l : List In} (h : (encA l).1 = 0) (hb : ∀ i ∈ l, U64 i.b) : decS (encS l) = (0, l) := by
  obtain ⟨h1, h2, h3⟩ := enc_ok h
  have := decGo_enc l ((encS l).length + 1) [] (fun i hi => ⟨h2 i hi, hb i hi⟩) (by omega) (by simpa using h3)
  simpa [decS] using this
theorem sizes_snoc {l : List In} {j : Nat} {x : In} (hx : l[j]? = some x) (hr : rightS x = true) : ((encS (l.take (j + 1))).length : Int) = ((encS (l.take j)).length : Int) + sizeS x.op := by
  rw [take_one hx, encS_snoc, List.length_append, ← encI_len (right_parts hr).1]
  omega
set_option maxRecDepth 20000 in
set_option maxHeartbeats 8000000 in
theorem back_walk (ao bo : Option Addr) (n nb cap capb : Nat) (l : List In) (b : Bs) (W : World) (hn : l.length = n) (hnb : b.length = nb) (hl : IL W ao cap l) (hok : ∀ i ∈ l, OkIn i) (hn2 : n ≤ 4398046510976) (hbl : BL W bo capb b) (ht : F.Tab W) :
    Calls Tryd.prog 6 #[.slice ao n cap, .slice bo nb capb] W fun e w' => e = .returned (.bool true) ∧ Fr (fun _ => False) W w' := by
  have klive := live_any W ht
  have kmine := fun w h => mine_any ao n cap l hn w h hn2
  have kdb : ∀ w, Fr (fun _ => False) W w → Calls Tryd.prog 15 #[.slice bo nb capb] w _ := fun w f => decode_any bo nb capb b hnb w (hbl.keep f)
  have hub : ∀ i ∈ l, U64 i.b := fun i hi => (hok i hi).b
  have hlH : Hidden (IL W ao cap l) := hl
  have hblH : Hidden (BL W bo capb b) := hbl
  have hnH : Hidden (l.length = n) := hn
  have hnbH : Hidden (b.length = nb) := hnb
  have hubH : Hidden (∀ i ∈ l, U64 i.b) := hub
  have hc1 : n ≤ cap := by rw [← hn]; exact hl.1
  have hc2 : nb ≤ capb := by rw [← hnb]; exact hbl.1
  clear hl hbl hn hnb hub hok ht
  go_enter Tryd.func6, Tryd.ntmps6
  go_wp2_with fail
  go_at_call 14
  refine klive.mono ?_
  rintro e w1 ⟨rfl, f1⟩
  clear klive
  go_wp2_with fail
  go_at_call 18
  refine (kmine w1 ((show IL W ao cap l from hlH).keep f1)).mono ?_
  rintro e w2 ⟨ov, rfl, hO, f2⟩
  have fw2 := f1.same f2
  clear kmine f1 f2
  obtain ⟨oo, co, rfl, hil⟩ := hO.il
  have kE := enc_of oo l hubH co w2 hil
  rw [show l.length = n from hnH] at kE ⊢
  have ho1 : n ≤ co := by rw [← (show l.length = n from hnH)]; exact hil.1
  have ho2 : co ≤ 9223372036854775807 := by have := hil.2.1; simpa [maxLen] using this
  have hilH : Hidden (IL w2 oo co l) := hil
  have fw2H : Hidden (Fr (fun _ => False) W w2) := fw2
  clear hO hil
  go_wp2_with fail
  go_at_call 21
  refine kE.mono ?_
  rintro e w3 ⟨xo, cx, rfl, hx, f3⟩
  have fw3 := fw2.same f3
  have il3 : Hidden (IL w3 oo co l) := (show IL w2 oo co l from hilH).keep f3
  clear kE fw2 f3 hilH fw2H
  have hbl : BL W bo capb b := hblH
  have hnb : b.length = nb := hnbH
  by_cases hE : (encA l).1 = 0
  · obtain ⟨hE2, hall, hl4⟩ := enc_ok hE
    have hbk := back_plain hE hubH
    rw [hE2] at hx ⊢
    obtain ⟨X, hX⟩ : ∃ X, X = encS l := ⟨_, rfl⟩
    obtain ⟨xl, hxl⟩ : ∃ xl, xl = (encS l).length := ⟨_, rfl⟩
    simp only [] at hx ⊢
    rw [← hxl]
    have hxlH : Hidden (xl = (encS l).length) := hxl
    have hx4 : xl ≤ 40960 := by rw [hxl]; have := encS_len l; have : l.length = n := hnH; omega
    have hn4 : n ≤ 4096 := by rw [← (show l.length = n from hnH)]; exact hl4
    have hxH : Hidden (BL w3 xo cx (encS l)) := hx
    have hxc : xl ≤ cx := by rw [hxl]; exact hx.1
    have hallH : Hidden (∀ i ∈ l, rightS i = true) := hall
    have hbkH : Hidden (decS (encS l) = (0, l)) := hbk
    have fw3H : Hidden (Fr (fun _ => False) W w3) := fw3
    have hblHH : Hidden (BL W bo capb b) := hbl
    clear hE hE2 hall hbk hx hX hxl hl4 fw3 hbl hnb X
    go_wp2_with fail
    go_loopg [8, 9] n (fun k nv iv wr => ∃ j : Nat, ∃ N : Nat, nv = .int .i64 (N : Int) ∧ N = (encS (l.take j)).length ∧ iv = .int .i64 (j : Int) ∧ j ≤ n ∧ k = n - j ∧ Fr (fun _ => False) w3 wr)
    case atStart => exact ⟨0, 0, rfl, by simp [encS], rfl, by omega, rfl, Fr.refl _ _⟩
    case round =>
      obtain ⟨j, N, rfl, hN, rfl, hj, hk, hf⟩ := hrel
      have hkH : Hidden (gk = n - j) := hk
      have hNH : Hidden (N = (encS (l.take j)).length) := hN
      have hfH : Hidden (Fr (fun _ => False) w3 wr) := hf
      clear hk hN
      by_cases hjl : j < n
      · obtain ⟨x, hxj⟩ : ∃ x, l[j]? = some x := ⟨_, List.getElem?_eq_getElem (by have : l.length = n := hnH; omega)⟩
        obtain ⟨bo', off, rfl, cells⟩ := (show IL w3 oo co l from il3).2.2.2.resolve_left (by rintro rfl; simp at hxj)
        obtain ⟨c0, c1, c2, c3⟩ := IL.at' (cap := co) (fun i x hx j u hu => hf.cellN (cells i x hx j u hu)) hxj
        have ks := fun w => size_any x w
        have hrx := (show ∀ i ∈ l, rightS i = true from hallH) x (List.mem_of_getElem? hxj)
        have hsn := sizes_snoc hxj hrx
        have hs0 := size_pos (right_parts hrx).1
        have hsle : sizeS x.op ≤ 10 := size_le10 x.op
        obtain ⟨S, hS⟩ : ∃ S, sizeS x.op = S := ⟨_, rfl⟩
        rw [hS] at ks hs0 hsle hsn
        have hNle : N ≤ 40960 := by rw [show N = _ from hNH]; have := encS_len (l.take j); rw [List.length_take] at this; omega
        have hsnH : Hidden (((encS (l.take (j + 1))).length : Int) = ((encS (l.take j)).length : Int) + S) := hsn
        have hw : wrap64 ((N : Int) + S) = (N : Int) + S := by unfold wrap64; omega
        clear hxj cells hrx hS hsn hf
        obtain ⟨op, nn, t, bb⟩ := x
        simp only [] at c0 c1 c2 c3
        go_wp2_with (first
          | (go_at_call 10; refine (ks _).mono ?_; rintro e w4 ⟨rfl, f4⟩))
        go_roundg (n - (j + 1))
        case measure => have : gk = n - j := hkH; omega
        case rel =>
          refine ⟨j + 1, ((N : Int) + S).toNat, ?_, ?_, by go_num, by omega, rfl, (show Fr _ w3 wr from hfH).same f4⟩
          · congr 1; omega
          · have h1 : ((encS (l.take (j + 1))).length : Int) = ((encS (l.take j)).length : Int) + S := hsnH
            have h2 : N = (encS (l.take j)).length := hNH
            omega
      · obtain rfl : j = n := by omega
        have hNx : N = xl := by
          rw [show N = _ from hNH, show xl = _ from hxlH, ← (show l.length = j from hnH), List.take_length]
        subst hNx
        have f34 := hf
        have kD := dec_of xo (encS l) cx wr ((show BL w3 xo cx (encS l) from hxH).keep hf)
        rw [show decS (encS l) = (0, l) from hbkH, ← (show N = (encS l).length from hxlH)] at kD
        simp only [] at kD
        have fw3 := (show Fr (fun _ => False) W w3 from fw3H).same hf
        clear hjl hf f34 hNH
        go_wp2_with fail
        go_at_call 15
        refine kD.mono ?_
        rintro e w4 ⟨mv, rfl, hm, f4⟩
        have fw4 := fw3.same f4
        obtain ⟨mo, cm, rfl, hilm⟩ := hm.il
        rw [show l.length = j from hnH]
        have kS := sameCode_any mo ao j j cm cap l l hnH hnH true (show _ = _ by simp) w4 hilm ((show IL W ao cap l from hlH).keep fw4)
        clear kD fw3 f4 hm hilm
        go_wp2_with fail
        go_at_call 17
        refine kS.mono ?_
        rintro e w5 ⟨rfl, f5⟩
        have fw5 := fw4.same f5
        have hbl : BL W bo capb b := hblHH
        have hnb : b.length = nb := hnbH
        clear kS fw4 f5
        go_wp2_with fail
        go_at_call 15
        refine (kdb w5 fw5).mono ?_
        rintro e w6 ⟨mv, rfl, hm, f6⟩
        have fw6 : Fr (fun _ => False) W w6 := fw5.same f6
        clear kdb f6 fw5
        obtain ⟨ao6, cap6, rfl, hil6⟩ := hm.il
        by_cases hd : (decS b).1 = 0
        · obtain ⟨hb, hall, hl4⟩ := dec_ok hd
          have kE := enc_of ao6 (decS b).2 (fun i hi => (hall i hi).2) cap6
          have eE : encA (decS b).2 = (0, b) := by
            unfold encA
            rw [if_neg (by omega), if_pos (List.all_eq_true.2 fun i hi => (hall i hi).1), ← hb]
          rw [eE] at kE
          rw [hd]
          have hdl : (decS b).2.length ≤ cap6 := hil6.1
          generalize hL : (decS b).2.length = L6 at *
          have hilH : Hidden (IL w6 ao6 cap6 (decS b).2) := hil6
          clear hb hall hl4 eE hd hL hil6
          go_wp2_with fail
          go_at_call 21
          refine (kE w6 hilH).mono ?_
          rintro e w7 ⟨yo, cy, rfl, hy, f7⟩
          have fw7 : Fr (fun _ => False) W w7 := fw6.same f7
          have ksb := sameB_any yo bo cy capb b b true w7 hy (hbl.keep fw7) (show _ = _ by simp)
          rw [show b.length = nb from hnb] at ksb ⊢
          clear hy f7 fw6 kE
          go_wp2_with fail
          go_at_call 22
          refine ksb.mono ?_
          rintro e w8 ⟨rfl, hw8⟩
          subst hw8
          go_wp2_with fail
          go_ret
          exact ⟨rfl, fw7⟩
        · have he := dec_err hd
          have hdb : ((decS b).1 != 0) = true := by simpa using hd
          rw [he]
          generalize (decS b).1 = E6 at hdb hd ⊢
          clear hil6 hm he hd
          go_wp2_with fail
          go_ret
          exact ⟨rfl, fw6⟩
  · have hE2 := enc_err hE
    rw [hE2] at hx ⊢
    have hEb : ((encA l).1 == 0) = false := by simpa using hE
    generalize (encA l).1 = E1 at hE hEb ⊢
    obtain ⟨w5, hw5⟩ : ∃ w5, w5 = w3 := ⟨_, rfl⟩
    rw [← hw5] at fw3 ⊢
    have fw5 := fw3
    clear hE hE2 hx fw3 il3 hw5
    go_wp2_with fail
    go_at_call 15
    refine (kdb w5 fw5).mono ?_
    rintro e w6 ⟨mv, rfl, hm, f6⟩
    have fw6 : Fr (fun _ => False) W w6 := fw5.same f6
    clear kdb f6 fw5
    obtain ⟨ao6, cap6, rfl, hil6⟩ := hm.il
    by_cases hd : (decS b).1 = 0
    · obtain ⟨hb, hall, hl4⟩ := dec_ok hd
      have kE := enc_of ao6 (decS b).2 (fun i hi => (hall i hi).2) cap6
      have eE : encA (decS b).2 = (0, b) := by
        unfold encA
        rw [if_neg (by omega), if_pos (List.all_eq_true.2 fun i hi => (hall i hi).1), ← hb]
      rw [eE] at kE
      rw [hd]
      have hdl : (decS b).2.length ≤ cap6 := hil6.1
      generalize hL : (decS b).2.length = L6 at *
      have hilH : Hidden (IL w6 ao6 cap6 (decS b).2) := hil6
      clear hb hall hl4 eE hd hL hil6
      go_wp2_with fail
      go_at_call 21
      refine (kE w6 hilH).mono ?_
      rintro e w7 ⟨yo, cy, rfl, hy, f7⟩
      have fw7 : Fr (fun _ => False) W w7 := fw6.same f7
      have ksb := sameB_any yo bo cy capb b b true w7 hy (hbl.keep fw7) (show _ = _ by simp)
      rw [show b.length = nb from hnb] at ksb ⊢
      clear hy f7 fw6 kE
      go_wp2_with fail
      go_at_call 22
      refine ksb.mono ?_
      rintro e w8 ⟨rfl, hw8⟩
      subst hw8
      go_wp2_with fail
      go_ret
      exact ⟨rfl, fw7⟩
    · have he := dec_err hd
      have hdb : ((decS b).1 != 0) = true := by simpa using hd
      rw [he]
      generalize (decS b).1 = E6 at hdb hd ⊢
      clear hil6 hm he hd
      go_wp2_with fail
      go_ret
      exact ⟨rfl, fw6⟩
end Go.Proofs.YticpiaonkgomfaaDoor.Cd
namespace Go.Proofs.YticpiaonkgomfaaDoor.codeBack
open Go.RowKit Ty Cd
theorem walk (v : Value) (l : List In) (u : Value) (b : Bs) (W : World) (hx : InsA W v l) (hy : BytA W u b) (ht : F.Tab W) : Calls Tryd.prog 6 #[v, u] W fun e w' => e = .returned (.bool true) ∧ Fr (fun _ => False) W w' := by
  obtain ⟨ao, cap, rfl, h1, h2, h3⟩ := hx
  obtain ⟨bo, capb, rfl, h4, h5⟩ := hy
  exact back_walk ao bo l.length b.length cap capb l b W rfl rfl h1 h2 h3 h4 ht
end Go.Proofs.YticpiaonkgomfaaDoor.codeBack
