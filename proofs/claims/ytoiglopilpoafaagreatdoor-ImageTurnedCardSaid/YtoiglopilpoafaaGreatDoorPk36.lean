/- Texts of ours, in one. -/
import Derived.Test.YtoiglopilpoafaaGreatDoorPk35
import Derived.Test.YtoiglopilpoafaaGreatDoorPk32
import Derived.Test.YtoiglopilpoafaaGreatDoorPk34
import Derived.Test.YtoiglopilpoafaaGreatDoorPk10
import Derived.Test.YtoiglopilpoafaaGreatDoorPk11
import Derived.Test.YtoiglopilpoafaaGreatDoorPk13
import Derived.Laws.AppendOwnNone
namespace Go.Proofs.YtoiglopilpoafaaGreatDoor.Im
open Go.RowKit Ty Cd
set_option linter.unusedSimpArgs false
set_option linter.unusedVariables false
set_option maxRecDepth 20000

theorem wrF_le {f : Fu} (h : OkFn f) : (wrF f).length ≤ 50000 := by
  rw [wrF_len]
  have h1 := encS_le f.cd
  have h2 := h.cd.2
  have h3 := h.ps.1
  have h4 := h.loc.1
  omega
theorem wrV_e (t b : Int) : wrV (t, b) = [u8 t] ++ be 8 b.toNat := rfl
theorem byte_wo (W : World) (pv : Value) (z : Int) (c : UInt8) (hz : z = (c.toNat : Int)) (bs : Bs) (m n : Nat) (w : World) (h : Wi.WOwn W pv w bs m) (hm : m = 1 + n) :
    Calls Tryz.prog 26 #[pv, .int .u8 z] w fun e w' => e = .returned (.tuple #[]) ∧ Wi.WOwn W pv w' (bs ++ [c]) n := by
  subst hz
  subst hm
  exact byte_wr W pv c bs n w h
set_option maxHeartbeats 8000000 in
theorem written_any (i : Ig) (hi : RtI i) (va fa : Option Addr) (vc fc nv nf : Nat) (hnv : i.vars.length = nv) (hnf : i.fns.length = nf) (w : World) (h : IgA w i va fa vc fc) :
    Calls Tryz.prog 12 #[.agg #[.slice va nv vc, .slice fa nf fc, ci i.mn]] w fun e w' => ∃ v, e = .returned v ∧ Bw w' w.heap.size v (wrI i) ∧ Fr (fun _ => False) w w' := by
  obtain ⟨V, hV⟩ : ∃ V, V = w.alloc (.cells #[.slice va nv vc, .slice fa nf fc, ci i.mn] 28 (0, 0)) := ⟨_, rfl⟩
  have fV : Fr (fun _ => False) w V := by rw [hV]; exact Fr.alloc _ _ _
  have xV : V.heap[w.heap.size]? = some (.cells #[.slice va nv vc, .slice fa nf fc, ci i.mn] 28 (0, 0)) := by rw [hV]; exact alloc_new _ _
  obtain ⟨hr1, hr2, hr3, hr4, hr5⟩ := right_G hi.right
  have ok := hi.ok
  obtain ⟨M, hM⟩ : ∃ M : Nat, i.mn = (M : Int) := ⟨i.mn.toNat, by have := ok.mn.1; omega⟩
  have hMlt : M < 2147483648 := by
    unfold beginsI at hr4
    simp only [Bool.and_eq_true, decide_eq_true_eq] at hr4
    cases hx : i.fns[i.mn.toNat]? with
    | none => rw [hx] at hr4; exact absurd hr4.2 (by simp)
    | some f => have := (List.getElem?_eq_some_iff.1 hx).1; omega
  obtain ⟨T3, hT3⟩ : ∃ T, T = 4 + nf * 50000 + 4 := ⟨_, rfl⟩
  obtain ⟨W1, hW1⟩ : ∃ X, X = V.alloc (.cells #[.slice none 0 0] 83) := ⟨_, rfl⟩
  have o0 : Wi.WOwn V (.pointer (some ⟨V.heap.size, 0, none⟩)) W1 [] (8 + nv * 9 + T3) := by rw [hW1]; exact Wi.WOwn.new V _ (by omega)
  have hA := h.keep fV
  obtain ⟨m0, m1, m2⟩ := box3 xV
  have hQ1 : w.heap.size + 1 = V.heap.size := by rw [hV]; simp
  generalize hQ : V.heap.size = Q at *
  have hQH : Hidden (w.heap.size + 1 = Q) := hQ1
  have hwr : Hidden (wrI i = [102, 105, 109, 103] ++ be 4 nv ++ i.vars.flatMap wrV ++ be 4 nf ++ i.fns.flatMap wrF ++ be 4 M) := by
    show _ = _
    unfold wrI wrB
    rw [hnv, hnf, hM]
    simp only [List.append_assoc, Int.toNat_natCast]
  have okv := ok.vars.2
  have okf := ok.fns.2
  have hcv : nv ≤ vc := by rw [← hnv]; exact h.1.1
  have hcvm : vc ≤ 9223372036854775807 := by have := h.1.2.1; simpa [maxLen] using this
  have hcf : nf ≤ fc := by rw [← hnf]; exact h.2.1
  have hcfm : fc ≤ 9223372036854775807 := by have := h.2.2.1; simpa [maxLen] using this
  rw [hnv] at hr1
  rw [hnf] at hr2
  rw [hM] at m2 xV hV ⊢
  have hAv : Hidden (VL V va vc i.vars) := hA.1
  have hAf : Hidden (FL V fa fc i.fns) := hA.2
  have okvH : Hidden (∀ v ∈ i.vars, (0 ≤ v.1 ∧ v.1 < 256) ∧ 0 ≤ v.2 ∧ v.2 < 18446744073709551616) := okv
  have okfH : Hidden (∀ f ∈ i.fns, OkFn f) := okf
  have hnvH : Hidden (i.vars.length = nv) := hnv
  have hnfH : Hidden (i.fns.length = nf) := hnf
  have bxH : Hidden (∀ (X : World) (q : Bs) (m : Nat), Wi.WOwn V (.pointer (some ⟨Q, 0, none⟩)) X q m → X.cell? ⟨w.heap.size, 0, none⟩ = some (.slice va nv vc) ∧ X.cell? ⟨w.heap.size, 1, none⟩ = some (.slice fa nf fc) ∧ X.cell? ⟨w.heap.size, 2, none⟩ = some (ci (M : Int))) := by
    intro X q m hX
    have f := of_wi hX.fr
    exact ⟨f.cellN m0, f.cellN m1, f.cellN m2⟩
  have fVH : Hidden (Fr (fun _ => False) w V) := fV
  have hVH : Hidden (V = _) := hV
  have hW1H : Hidden (W1 = V.alloc (.cells #[.slice none 0 0] 83)) := hW1
  have hT3H : Hidden (T3 = 4 + nf * 50000 + 4) := hT3
  have o0H : Hidden (Wi.WOwn V (.pointer (some ⟨Q, 0, none⟩)) W1 [] (8 + nv * 9 + T3)) := o0
  generalize hgv : i.vars = vs at *
  generalize hgf : i.fns = fs at *
  generalize hG : w.heap.size = G at *
  have hGH : Hidden (w.heap.size = G) := hG
  clear hV fV xV hi h ok hA hnv hnf hM hr3 hr4 hr5 okv okf hT3 hgv hgf m0 m1 m2 o0 hW1 hQ hQ1
  go_enter Tryz.func12, Tryz.ntmps12
  go_upto_region 2 with fail
  rw [← (show V = _ from hVH), ← (show W1 = _ from hW1H), show G + 1 = Q from hQH]
  clear hW1H hVH hQH
  go_wp2_with fail
  go_loopg [4, 9] 4 (fun k _ iv wr => (iv = .int .i64 0 ∧ k = 4 ∧ Wi.WOwn V (.pointer (some ⟨Q, 0, none⟩)) wr [] (8 + nv * 9 + T3)) ∨ (iv = .int .i64 1 ∧ k = 3 ∧ Wi.WOwn V (.pointer (some ⟨Q, 0, none⟩)) wr [102] (7 + nv * 9 + T3)) ∨ (iv = .int .i64 2 ∧ k = 2 ∧ Wi.WOwn V (.pointer (some ⟨Q, 0, none⟩)) wr [102, 105] (6 + nv * 9 + T3)) ∨ (iv = .int .i64 3 ∧ k = 1 ∧ Wi.WOwn V (.pointer (some ⟨Q, 0, none⟩)) wr [102, 105, 109] (5 + nv * 9 + T3)) ∨ (iv = .int .i64 4 ∧ k = 0 ∧ Wi.WOwn V (.pointer (some ⟨Q, 0, none⟩)) wr [102, 105, 109, 103] (4 + nv * 9 + T3)))
  case atStart => exact Or.inl ⟨rfl, rfl, o0H⟩
  case round =>
    rcases hrel with ⟨rfl, hk, ho⟩ | ⟨rfl, hk, ho⟩ | ⟨rfl, hk, ho⟩ | ⟨rfl, hk, ho⟩ | ⟨rfl, hk, ho⟩
    · have kb := byte_wo V (.pointer (some ⟨Q, 0, none⟩)) 102 102 rfl [] _ (7 + nv * 9 + T3) wr ho (by omega)
      clear ho
      go_wp2_with (go_at_call 26; refine kb.mono ?_; rintro e w2 ⟨rfl, h2⟩; have h2H : Hidden _ := h2; clear h2)
      go_roundg 3
      case measure => omega
      case rel => exact Or.inr (Or.inl ⟨by go_num, rfl, h2H⟩)
    · have kb := byte_wo V (.pointer (some ⟨Q, 0, none⟩)) 105 105 rfl [102] _ (6 + nv * 9 + T3) wr ho (by omega)
      clear ho
      go_wp2_with (go_at_call 26; refine kb.mono ?_; rintro e w2 ⟨rfl, h2⟩; have h2H : Hidden _ := h2; clear h2)
      go_roundg 2
      case measure => omega
      case rel => exact Or.inr (Or.inr (Or.inl ⟨by go_num, rfl, h2H⟩))
    · have kb := byte_wo V (.pointer (some ⟨Q, 0, none⟩)) 109 109 rfl [102, 105] _ (5 + nv * 9 + T3) wr ho (by omega)
      clear ho
      go_wp2_with (go_at_call 26; refine kb.mono ?_; rintro e w2 ⟨rfl, h2⟩; have h2H : Hidden _ := h2; clear h2)
      go_roundg 1
      case measure => omega
      case rel => exact Or.inr (Or.inr (Or.inr (Or.inl ⟨by go_num, rfl, h2H⟩)))
    · have kb := byte_wo V (.pointer (some ⟨Q, 0, none⟩)) 103 103 rfl [102, 105, 109] _ (4 + nv * 9 + T3) wr ho (by omega)
      clear ho
      go_wp2_with (go_at_call 26; refine kb.mono ?_; rintro e w2 ⟨rfl, h2⟩; have h2H : Hidden _ := h2; clear h2)
      go_roundg 0
      case measure => omega
      case rel => exact Or.inr (Or.inr (Or.inr (Or.inr ⟨by go_num, rfl, h2H⟩)))
    · have bx := (show ∀ (X : World) (q : Bs) (m : Nat), _ → _ from bxH)
      have ki := int_wr V (.pointer (some ⟨Q, 0, none⟩)) nv [102, 105, 109, 103] (nv * 9 + T3) wr (by omega) (by rw [show 4 + (nv * 9 + T3) = 4 + nv * 9 + T3 by omega]; exact ho)
      obtain ⟨y0, y1, y2⟩ := bx _ _ _ ho
      clear ho bx
      go_wp2_with (go_at_call 27; refine ki.mono ?_; rintro e w2 ⟨rfl, h2⟩
                   have h2H : Hidden (Wi.WOwn V (.pointer (some ⟨Q, 0, none⟩)) w2 ([102, 105, 109, 103] ++ be 4 nv) (nv * 9 + T3)) := h2
                   obtain ⟨x0, x1, x2⟩ := (show ∀ (X : World) (q : Bs) (m : Nat), _ → _ from bxH) _ _ _ h2
                   clear h2 ki y0 y1 y2)
      clear x0 x1 x2
      go_loopg [25] nv (fun k iv wr => ∃ j : Nat, iv = .int .i64 (j : Int) ∧ j ≤ nv ∧ k = nv - j ∧ Wi.WOwn V (.pointer (some ⟨Q, 0, none⟩)) wr ([102, 105, 109, 103] ++ be 4 nv ++ (vs.take j).flatMap wrV) ((nv - j) * 9 + T3))
      case atStart => exact ⟨0, rfl, by omega, rfl, by simpa using (show Wi.WOwn V (.pointer (some ⟨Q, 0, none⟩)) w2 ([102, 105, 109, 103] ++ be 4 nv) (nv * 9 + T3) from h2H)⟩
      case round =>
        obtain ⟨j, rfl, hj, hk2, ho⟩ := hrel
        have hkH : Hidden (gk = nv - j) := hk2
        have hoH : Hidden (Wi.WOwn V (.pointer (some ⟨Q, 0, none⟩)) wr ([102, 105, 109, 103] ++ be 4 nv ++ (vs.take j).flatMap wrV) ((nv - j) * 9 + T3)) := ho
        clear hk2
        by_cases hjl : j < nv
        · obtain ⟨⟨t, b⟩, hx⟩ : ∃ x, vs[j]? = some x := ⟨_, List.getElem?_eq_getElem (by have : vs.length = nv := hnvH; omega)⟩
          obtain ⟨bl, off, rfl, cells⟩ := (show VL V va vc vs from hAv).2.2.2.resolve_left (by rintro rfl; simp at hx)
          have fr := of_wi ho.fr
          have c1 := fr.cellN (cells j _ hx).1
          have c2 := fr.cellN (cells j _ hx).2
          simp only [] at c1 c2
          obtain ⟨ht, hb1, hb2⟩ := (show ∀ v ∈ vs, _ from okvH) _ (List.mem_of_getElem? hx)
          simp only [] at ht hb1 hb2
          obtain ⟨B, rfl⟩ : ∃ B : Nat, b = (B : Int) := ⟨b.toNat, by omega⟩
          have htk : Hidden ((vs.take (j + 1)).flatMap wrV = (vs.take j).flatMap wrV ++ ([u8 t] ++ be 8 B)) := by
            show _ = _
            rw [flat_snocB _ hx, wrV_e, Int.toNat_natCast]
          obtain ⟨O, hO⟩ : ∃ O, O = Obj.cells #[ci t, .int .u64 (B : Int)] 59 (0, 0) := ⟨_, rfl⟩
          have b0 := wb_open ho O
          obtain ⟨Y, hY⟩ : ∃ Y, Y = wr.alloc O := ⟨_, rfl⟩
          rw [← hY] at b0
          have xY : Y.heap[wr.heap.size]? = some O := by rw [hY]; exact alloc_new _ _
          have hY2 : Y = wr.alloc (.cells #[ci t, .int .u64 (B : Int)] 59 (0, 0)) := by rw [hY, hO]
          rw [hO] at xY
          obtain ⟨d0, d1⟩ := Cd.box2 xY
          have xYH : Hidden (Y.heap[wr.heap.size]? = some (.cells #[ci t, .int .u64 (B : Int)] 59 (0, 0))) := xY
          have hYH : Hidden (Y = wr.alloc (.cells #[ci t, .int .u64 (B : Int)] 59 (0, 0))) := hY2
          generalize hF : wr.heap.size = F at *
          have hFH : Hidden (wr.heap.size = F) := hF
          have kb := byte_wz V Y _ (.pointer (some ⟨Q, 0, none⟩)) (t % 256) (u8 t) (u8_mod ht) _ ((nv - (j + 1)) * 9 + T3 + 8) Y (by rw [show 1 + ((nv - (j + 1)) * 9 + T3 + 8) = (nv - j) * 9 + T3 by omega]; exact b0)
          have kl := fun X (hX : WB V Y (fun k => k = F) (.pointer (some ⟨Q, 0, none⟩)) X ([102, 105, 109, 103] ++ be 4 nv ++ (vs.take j).flatMap wrV ++ [u8 t]) ((nv - (j + 1)) * 9 + T3 + 8)) => long_wb V Y _ (.pointer (some ⟨Q, 0, none⟩)) B _ ((nv - (j + 1)) * 9 + T3) X (by omega) (by rw [Nat.add_comm 8]; exact hX)
          have hjn : (j : Int) < (nv : Int) := by omega
          have e256 : t % 256 = t := by omega
          rw [e256] at kb
          generalize u8 t = ct at *
          clear hx cells fr hb1 hb2 hO b0 hY xY hY2 ho hF hjl e256
          go_upto_region 11 with fail
          rw [← (show Y = _ from hYH), show wr.heap.size = F from hFH]
          go_wp2_with (first
            | (go_at_call 26; refine kb.mono ?_; rintro e w3 ⟨rfl, h3⟩
               have h3H : Hidden (WB V Y (fun k => k = F) (.pointer (some ⟨Q, 0, none⟩)) w3 ([102, 105, 109, 103] ++ be 4 nv ++ (vs.take j).flatMap wrV ++ [ct]) ((nv - (j + 1)) * 9 + T3 + 8)) := h3
               have e0 := Cd.box2 (wb_box h3 xYH)
               obtain ⟨e0, e1⟩ := e0
               have kl1 := kl w3 h3
               clear h3 kb kl d0 d1)
            | (go_at_call 28; refine kl1.mono ?_; rintro e w4 ⟨rfl, h4⟩
               have h4H : Hidden (WB V Y (fun k => k = F) (.pointer (some ⟨Q, 0, none⟩)) w4 ([102, 105, 109, 103] ++ be 4 nv ++ (vs.take j).flatMap wrV ++ [ct] ++ be 8 B) ((nv - (j + 1)) * 9 + T3)) := h4
               clear h4 kl1 e0 e1))
          go_roundg (nv - (j + 1))
          case measure => have : gk = nv - j := hkH; omega
          case rel => exact ⟨j + 1, by go_num, by omega, rfl, by rw [show (vs.take (j + 1)).flatMap wrV = _ from htk, ← List.append_assoc, ← List.append_assoc]; exact wb_shut h4H⟩
        · obtain rfl : j = nv := by omega
          have hfull : vs.take j = vs := List.take_of_length_le (by have : vs.length = j := hnvH; omega)
          have hjn : decide ((j : Int) < (j : Int)) = false := by simp
          rw [hfull, Nat.sub_self, Nat.zero_mul, Nat.zero_add, show T3 = _ from hT3H] at ho
          have bx := (show ∀ (X : World) (q : Bs) (m : Nat), _ → _ from bxH)
          have ki := int_wr V (.pointer (some ⟨Q, 0, none⟩)) nf ([102, 105, 109, 103] ++ be 4 j ++ vs.flatMap wrV) (nf * 50000 + 4) wr (by omega) (by rw [show 4 + (nf * 50000 + 4) = 4 + nf * 50000 + 4 by omega]; exact ho)
          obtain ⟨y0, y1, y2⟩ := bx _ _ _ ho
          obtain ⟨E, hE⟩ : ∃ E, E = [102, 105, 109, 103] ++ be 4 j ++ vs.flatMap wrV ++ be 4 nf := ⟨_, rfl⟩
          rw [← hE] at ki
          have hEH : Hidden (E = _) := hE
          clear ho bx hoH hfull hjl hE
          go_wp2_with (go_at_call 27; refine ki.mono ?_; rintro e w5 ⟨rfl, h5⟩
                       have h5H : Hidden (Wi.WOwn V (.pointer (some ⟨Q, 0, none⟩)) w5 E (nf * 50000 + 4)) := h5
                       obtain ⟨x0, x1, x2⟩ := (show ∀ (X : World) (q : Bs) (m : Nat), _ → _ from bxH) _ _ _ h5
                       clear h5 ki y0 y1 y2)
          clear x0 x1 x2
          go_loopg [47] nf (fun k iv wr => ∃ m : Nat, iv = .int .i64 (m : Int) ∧ m ≤ nf ∧ k = nf - m ∧ Wi.WOwn V (.pointer (some ⟨Q, 0, none⟩)) wr (E ++ (fs.take m).flatMap wrF) ((nf - m) * 50000 + 4))
          case atStart => exact ⟨0, rfl, by omega, rfl, by simpa using (show Wi.WOwn V (.pointer (some ⟨Q, 0, none⟩)) w5 E (nf * 50000 + 4) from h5H)⟩
          case round =>
            obtain ⟨m, rfl, hm, hk3, ho⟩ := hrel
            have hk3H : Hidden (gk = nf - m) := hk3
            have hoH : Hidden (Wi.WOwn V (.pointer (some ⟨Q, 0, none⟩)) wr (E ++ (fs.take m).flatMap wrF) ((nf - m) * 50000 + 4)) := ho
            clear hk3
            by_cases hml : m < nf
            · obtain ⟨f, hx⟩ : ∃ x, fs[m]? = some x := ⟨_, List.getElem?_eq_getElem (by have : fs.length = nf := hnfH; omega)⟩
              obtain ⟨bl, off, rfl⟩ := fl_some (show FL V fa fc fs from hAf) hx
              obtain ⟨x, hP, q0, q1, q2, q3⟩ := fl_at (show FL V _ fc fs from hAf) hx
              have fr := of_wi ho.fr
              replace q0 := fr.cellN q0
              replace q1 := fr.cellN q1
              replace q2 := fr.cellN q2
              replace q3 := fr.cellN q3
              have hokf := (show ∀ f ∈ fs, OkFn f from okfH) f (List.mem_of_getElem? hx)
              have hle := wrF_le hokf
              obtain ⟨⟨a0, c0⟩, ⟨a2, c2⟩, ⟨a3, c3⟩⟩ := x
              obtain ⟨h0, h2, h3⟩ := hP
              simp only [] at q0 q1 q2 q3 h0 h2 h3
              have htk : Hidden ((fs.take (m + 1)).flatMap wrF = (fs.take m).flatMap wrF ++ wrF f) := flat_snocB _ hx
              have kp := fun X (hX : Fr (fun _ => False) wr X) => putFn_wr V Q f a0 a2 a3 c0 c2 c3 _ _ _ rfl rfl rfl (E ++ (fs.take m).flatMap wrF) ((nf - (m + 1)) * 50000 + 4) X hokf h0 h2 h3 ((ho.keep (to_wi hX) (fun _ f => f.elim)).less (by
                have : nf - m = nf - (m + 1) + 1 := by omega
                rw [this, Nat.succ_mul]
                omega))
              have hjn : (m : Int) < (nf : Int) := by omega
              generalize f.sg.ps.length = l0 at *
              generalize f.loc.length = l2 at *
              generalize f.cd.length = l3 at *
              generalize f.sg.res = res at *
              clear hx fr hokf hle h0 h2 h3 ho hml
              go_wp2_with (go_at_call 29; refine (kp _ (Fr.alloc _ _ _)).mono ?_; rintro e w6 ⟨rfl, h6⟩; have h6H : Hidden _ := h6; clear h6)
              go_roundg (nf - (m + 1))
              case measure => have : gk = nf - m := hk3H; omega
              case rel => exact ⟨m + 1, by go_num, by omega, rfl, by rw [show (fs.take (m + 1)).flatMap wrF = _ from htk, ← List.append_assoc]; exact h6H⟩
            · obtain rfl : m = nf := by omega
              have hfull : fs.take m = fs := List.take_of_length_le (by have : fs.length = m := hnfH; omega)
              have hjm : decide ((m : Int) < (m : Int)) = false := by simp
              rw [hfull, Nat.sub_self, Nat.zero_mul, Nat.zero_add] at ho
              have bx := (show ∀ (X : World) (q : Bs) (m : Nat), _ → _ from bxH)
              have ki := int_wr V (.pointer (some ⟨Q, 0, none⟩)) M (E ++ fs.flatMap wrF) 0 wr hMlt ho
              obtain ⟨y0, y1, y2⟩ := bx _ _ _ ho
              have hall : Hidden (wrI i = E ++ fs.flatMap wrF ++ be 4 M) := by
                show _ = _
                rw [show wrI i = _ from hwr, show E = _ from hEH]
              clear ho bx hoH hfull hml
              go_wp2_with (first
                | (go_at_call 27; refine ki.mono ?_; rintro e w7 ⟨rfl, h7⟩
                   have f7H : Hidden (Fr (fun _ => False) V w7) := of_wi h7.fr
                   have kbs := bytes_wr V Q _ 0 w7 h7
                   clear h7 ki y0 y1 y2)
                | (go_at_call 30; refine kbs.mono ?_; rintro e w8 ⟨v, rfl, h8, f8⟩
                   have h8H : Hidden _ := h8
                   have f8H : Hidden _ := f8
                   clear h8 f8 kbs))
              go_ret
              rw [show wrI i = _ from hall]
              have f0 : Fr (fun _ => False) w w7 := (show Fr (fun _ => False) w V from fVH).same f7H
              exact ⟨v, rfl, own_lower h8H (by have := f0.size; have : w.heap.size = G := hGH; omega), f0.same f8H⟩
end Go.Proofs.YtoiglopilpoafaaGreatDoor.Im

namespace Go.Proofs.YtoiglopilpoafaaGreatDoor.Cd
open Go.RowKit Ty
set_option linter.unusedSimpArgs false
set_option linter.unusedVariables false

theorem rs_other {op n t b : Int} (h1 : 2 ≤ op) (h2 : op ≤ 17) (ht : t = 0) (hb : b = 0) (hn : 0 ≤ n) : rightS ⟨op, n, t, b⟩ = (decide (lo op ≤ n) && decide (n ≤ hi op)) := by
  subst ht hb
  unfold rightS
  have hk : known op = true := by simp [known]; omega
  simp only [hk, Bool.true_and]
  rw [if_neg (by omega)]
  simp
theorem rs_bad {op n t b : Int} (h1 : ¬ op = 1) (h : ¬ (t = 0 ∧ b = 0)) : rightS ⟨op, n, t, b⟩ = false := by
  unfold rightS
  simp only []
  rw [if_neg h1]
  have : (t == 0 && b == 0) = false := by
    cases h3 : (t == 0 && b == 0) with
    | false => rfl
    | true =>
      simp only [Bool.and_eq_true, beq_iff_eq] at h3
      exact absurd h3 h
  rw [this]
  simp
theorem rs_neg {op n t b : Int} (hn : n < 0) : rightS ⟨op, n, t, b⟩ = false := by
  unfold rightS
  have : decide (lo op ≤ n) = false := by
    have := lo_pos op
    simp; omega
  simp [this]
theorem lo_hi (op : Int) : (wd op = 0 ∧ lo op = 0 ∧ hi op = 0) ∨ (wd op = 2 ∧ lo op = 0 ∧ hi op = 65535) ∨ (op = 6 ∧ wd op = 1 ∧ lo op = 1 ∧ hi op = 4) ∨ (op = 7 ∧ wd op = 1 ∧ lo op = 1 ∧ hi op = 11) ∨ ((op == 6) = false ∧ (op == 7) = false ∧ wd op = 1 ∧ lo op = 0 ∧ hi op = 255) := by
  by_cases h6 : op = 6
  · subst h6; right; right; left; exact ⟨rfl, rfl, rfl, rfl⟩
  by_cases h7 : op = 7
  · subst h7; right; right; right; left; exact ⟨rfl, rfl, rfl, rfl⟩
  have e1 : lo op = 0 := by unfold lo; rw [if_neg (by omega)]
  have e2 : hi op = if wd op = 1 then 255 else if wd op = 2 then 65535 else 0 := by unfold hi; rw [if_neg h6, if_neg h7]
  have hw : wd op = 0 ∨ wd op = 1 ∨ wd op = 2 := by
    unfold wd
    by_cases q1 : op = 2 ∨ op = 3 ∨ op = 6 ∨ op = 7
    · rw [if_pos q1]; omega
    · rw [if_neg q1]
      by_cases q2 : op = 4 ∨ op = 5 ∨ op = 8 ∨ op = 9 ∨ op = 10 ∨ op = 15
      · rw [if_pos q2]; omega
      · rw [if_neg q2]; omega
  rcases hw with hw | hw | hw
  · left; exact ⟨hw, e1, by rw [e2, hw]; rfl⟩
  · right; right; right; right; exact ⟨by simp [h6], by simp [h7], hw, e1, by rw [e2, hw]; rfl⟩
  · right; left; exact ⟨hw, e1, by rw [e2, hw]; rfl⟩
end Go.Proofs.YtoiglopilpoafaaGreatDoor.Cd

namespace Go.Proofs.YtoiglopilpoafaaGreatDoor.Ty
open Go.RowKit
set_option linter.unusedSimpArgs false
set_option linter.unusedVariables false


set_option maxHeartbeats 800000 in
theorem equal_walk (ao bo : Option Addr) (na nb ca cb : Nat) (la lb : List Int) (r : Bool) (w : World) (hna : Hidden (la.length = na)) (hnb : Hidden (lb.length = nb)) (h1 : na ≤ ca) (h2 : nb ≤ cb) (h3 : ca ≤ 9223372036854775807) (h4 : cb ≤ 9223372036854775807)
    (ha : Hidden (la = [] ∨ ∃ b off, ao = some ⟨b, off, none⟩ ∧ ∀ (i : Nat) (x : Int), la[i]? = some x → w.cell? ⟨b, off + i, none⟩ = some (ci x)))
    (hb : Hidden (lb = [] ∨ ∃ b off, bo = some ⟨b, off, none⟩ ∧ ∀ (i : Nat) (x : Int), lb[i]? = some x → w.cell? ⟨b, off + i, none⟩ = some (ci x))) (hr : Hidden (decide (la = lb) = r)) :
    Calls Tryz.prog 42 #[.slice ao na ca, .slice bo nb cb] w fun e w' => e = .returned (.bool r) ∧ Fr (fun _ => False) w w' := by
  by_cases hn : na = nb
  · subst hn
    go_enter Tryz.func42, Tryz.ntmps42
    go_wp2
    go_loopg [13] na (fun k iv wr => ∃ j : Nat, iv = .int .i64 (j : Int) ∧ j ≤ na ∧ k = na - j ∧ Fr (fun _ => False) w wr ∧ la.take j = lb.take j)
    case atStart => exact ⟨0, rfl, by omega, rfl, Fr.refl _ _, rfl⟩
    case round =>
      obtain ⟨j, rfl, hj, hk, hf, hsame⟩ := hrel
      have hkH : Hidden (gk = na - j) := hk
      have hfH : Hidden (Fr (fun _ => False) w wr) := hf
      have hsH : Hidden (la.take j = lb.take j) := hsame
      have hna' : la.length = na := hna
      have hnb' : lb.length = na := hnb
      clear hk hsame
      by_cases hjl : j < na
      · obtain ⟨x, hx⟩ : ∃ x, la[j]? = some x := ⟨la[j], List.getElem?_eq_getElem (by omega)⟩
        obtain ⟨y, hy⟩ : ∃ y, lb[j]? = some y := ⟨lb[j], List.getElem?_eq_getElem (by omega)⟩
        rcases (show la = [] ∨ _ from ha) with h0 | ⟨ba, oa, rfl, hca⟩
        · rw [h0] at hx; simp at hx
        rcases (show lb = [] ∨ _ from hb) with h0 | ⟨bb, ob, rfl, hcb⟩
        · rw [h0] at hy; simp at hy
        have c1 := hf.cell (hca j x hx) (fun f => f)
        have c2 := hf.cell (hcb j y hy) (fun f => f)
        have hxH : Hidden (la[j]? = some x) := hx
        have hyH : Hidden (lb[j]? = some y) := hy
        clear hf hca hcb hna' hnb' hx hy
        by_cases hxy : x = y
        · subst hxy
          go_wp2
          go_region
          go_wp2
          go_roundg (na - (j + 1))
          case measure => have := (show gk = na - j from hkH); omega
          case rel =>
            refine ⟨j + 1, by go_num, by omega, rfl, hfH.same (Fr.drew _ _), ?_⟩
            rw [List.take_add_one, List.take_add_one, show la[j]? = some x from hxH, show lb[j]? = some x from hyH, show la.take j = lb.take j from hsH]
        · have hne : (x == y) = false := beq_eq_false_iff_ne.2 hxy
          have hne3 : (x != y) = true := by simp [hxy]
          have hxyH : Hidden (x ≠ y) := hxy
          clear hxy
          go_wp2
          go_region
          go_wp2
          go_ret
          refine ⟨?_, hfH.same (Fr.drew _ _)⟩
          have hne2 : la ≠ lb := fun e => by
            have h1 : la[j]? = some x := hxH
            rw [e, show lb[j]? = some y from hyH] at h1
            exact (show x ≠ y from hxyH) (Option.some.inj h1).symm
          rw [← (show decide (la = lb) = r from hr), decide_eq_false hne2]
          rfl
      · obtain rfl : j = na := by omega
        clear hf
        go_wp2
        go_ret
        refine ⟨?_, hfH⟩
        have this : la.take j = lb.take j := hsH
        rw [List.take_of_length_le (by omega), List.take_of_length_le (by omega)] at this
        rw [← (show decide (la = lb) = r from hr), decide_eq_true this]
        rfl
  · have hn' : ((na : Int) == (nb : Int)) = false := by simp; omega
    have hn2 : ((na : Int) != (nb : Int)) = true := by simp; omega
    go_enter Tryz.func42, Tryz.ntmps42
    go_wp2
    go_ret
    refine ⟨?_, Fr.refl _ _⟩
    have e1 : la.length = na := hna
    have e2 : lb.length = nb := hnb
    have hne2 : la ≠ lb := fun e => hn (by rw [← e1, ← e2, e])
    rw [← (show decide (la = lb) = r from hr), decide_eq_false hne2]
    rfl
theorem equal_is (ao bo : Option Addr) (ca cb : Nat) (la lb : List Int) (w : World) (ha : InL w ao ca la) (hb : InL w bo cb lb) :
    Calls Tryz.prog 42 #[.slice ao la.length ca, .slice bo lb.length cb] w fun e w' => e = .returned (.bool (decide (la = lb))) ∧ Fr (fun _ => False) w w' := by
  obtain ⟨a1, a2, a3, a4⟩ := ha
  obtain ⟨b1, b2, b3, b4⟩ := hb
  exact equal_walk ao bo _ _ ca cb la lb _ w rfl rfl a1 b1 (by unfold maxLen at a2; omega) (by unfold maxLen at b2; omega) a4 b4 rfl
/-- The program's SameItem, and the document's. -/
def sameI (i j : It) : Bool := decide (i = j)
theorem sameI_head {i j : It} (h : ¬ (i.kind = j.kind ∧ i.name = j.name ∧ i.typ = j.typ ∧ i.bits = j.bits)) : decide (i = j) = false := by
  rw [decide_eq_false_iff_not]
  intro e
  subst e
  exact h ⟨rfl, rfl, rfl, rfl⟩

end Go.Proofs.YtoiglopilpoafaaGreatDoor.Ty

namespace Go.Proofs.YtoiglopilpoafaaGreatDoor.Cd
open Go.RowKit Ty
set_option linter.unusedSimpArgs false
set_option linter.unusedVariables false

theorem wpl_app {w : World} {ops : Array Oper} {rest : List Oper} {o : Oper} {a : Act} {Q : Exit → Act → World → Prop} (hgd : o.guard = none) (s x : Operand) (ty e : TypeId) (z : Value) (size bytes : Nat)
    (hty : Tryz.prog.underlying ty = some (.slice e)) (hinfo : (Tryz.prog.info? e).map (fun i => (i.zero, i.size, i.bytes)) = some (some z, size, bytes)) (hzs : z.cells.size = size) (hsz : 0 < size)
    (ho : o.op = .call { callee := .builtin .append, args := #[s, x], argTypes := #[ty, ty] }) (B : Nat) (v : Value) (n : Nat) (cells : List Value) (lo : Option Addr) (k c : Nat) (news : List Value)
    (hs : a.eval s = v) (hr : w.ownsRow B e size v n cells) (hx : a.eval x = .slice lo k c) (hl : news.length = k * size) (hnil : lo = none → k = 0 ∧ c = 0) (hc : ∀ ad, lo = some ad → ∀ (j : Nat) (u : Value), news[j]? = some u → w.cell? (ad.add j) = some u) (h1 : ∀ u ∈ news, u.oneCell' = true)
    (hm : n + k ≤ maxLen) (hb : (n + k) * bytes ≤ 140737488355328) (hB : B ≤ w.heap.size)
    (h : ∀ v' w', w'.ownsRow B e size v' (n + k) (cells ++ news) → Fr (fun b => v.ownBlock = some b) w w' → (v'.ownBlock = v.ownBlock ∨ v'.ownBlock = some w.heap.size) → wpList Tryz.prog ops Q rest (a.put o.dst v') w') : wpList Tryz.prog ops Q (o :: rest) a w := by
  cases lo with
  | some ad => exact wpl_append hgd s x ty e z size bytes hty hinfo hzs hsz ho B v n cells ad k c news hs hr hx hl (hc ad rfl) h1 hm hb hB h
  | none =>
    obtain ⟨rfl, rfl⟩ := hnil rfl
    have hn0 : news = [] := List.eq_nil_of_length_eq_zero (by rw [hl, Nat.zero_mul])
    subst hn0
    refine wpList_plain hgd fun K hK => ?_
    cases hi : Tryz.prog.info? e with
    | none => rw [hi] at hinfo; cases hinfo
    | some i =>
      have hrun := run_append_owned_none (P := Tryz.prog) (w := w) B ty o.type e i size hty hi v n cells hr
      unfold Oper.wp
      simp only [execOp, ho, resolve, invoke, builtin, Sem.run_bind, Sem.run_pure, Result.andThen_ok, List.map_toArray, List.map_cons, List.map_nil, hs, hx, hrun]
      exact hK _ _ (h v w (by simpa using hr) (Fr.refl _ _) (Or.inl rfl))
theorem own_new {w : World} {B g : Nat} {e : TypeId} (size : Nat) (hB : B ≤ g) (hg : w.heap[g]? = some (.cells #[] e (0, 0))) : w.ownsRow B e size (.slice (some ⟨g, 0, none⟩) 0 0) 0 [] :=
  ⟨by simp, Or.inr ⟨g, 0, #[], rfl, hB, hg, Nat.le_refl _, by decide, by simp, by simp⟩⟩
theorem byC_one (l : Bs) : ∀ u ∈ byC l, u.oneCell' = true := by
  intro u hu
  obtain ⟨c, _, rfl⟩ := List.mem_map.1 hu
  rfl
theorem BL.cells {w : World} {ao : Option Addr} {cap : Nat} {l : Bs} (h : BL w ao cap l) : (ao = none → l.length = 0 ∧ cap = 0) ∧ ∀ ad, ao = some ad → ∀ (j : Nat) (u : Value), (byC l)[j]? = some u → w.cell? (ad.add j) = some u := by
  obtain ⟨h1, h2, h3, h4⟩ := h
  refine ⟨fun e => ⟨by have := h3 e; omega, h3 e⟩, fun ad e j u hu => ?_⟩
  rcases h4 with rfl | ⟨b, off, e2, h4⟩
  · simp [byC] at hu
  · rw [e] at e2
    obtain rfl := Option.some.inj e2
    unfold byC at hu
    rw [List.getElem?_map] at hu
    cases hc : l[j]? with
    | none => rw [hc] at hu; cases hu
    | some c =>
      rw [hc] at hu
      obtain rfl := Option.some.inj hu
      rw [Addr.add_lit]
      exact h4 j c hc
end Go.Proofs.YtoiglopilpoafaaGreatDoor.Cd
