/- The document's printing (4): a function's head. -/
import Derived.Test.YteijjaabngkbjaaGreatDoorPvC
namespace Go.Proofs.YteijjaabngkbjaaGreatDoor.V
open Go.RowKit Te
set_option linter.unusedSimpArgs false
set_option linter.unusedVariables false

theorem paT_snoc : ∀ (l : List Pa) (p : Pa), paT (l ++ [p]) = paT l ++ (if l = [] then [] else [44, 32]) ++ (p.name ++ tyT p.type)
  | [], p => by simp [paT]
  | [q], p => by simp [paT]
  | q :: r :: l, p => by
    have := paT_snoc (r :: l) p
    simp only [List.cons_append, paT] at this ⊢
    rw [this]
    simp
theorem paT_bd : ∀ (l : List Pa), (∀ p ∈ l, p.name.length ≤ 1000) → (paT l).length ≤ 2000 * l.length
  | [], _ => by simp [paT]
  | [p], h => by
    have := h p (by simp)
    have := Pz.tyT_ln p.type
    simp only [paT, List.length_append, List.length_cons, List.length_nil]
    omega
  | p :: q :: r, h => by
    have := h p (by simp)
    have := Pz.tyT_ln p.type
    have := paT_bd (q :: r) (fun x hx => h x (by simp [hx]))
    simp only [paT, List.length_append, List.length_cons, List.length_nil] at *
    omega
set_option maxRecDepth 20000 in
set_option maxHeartbeats 4000000 in
theorem head_3t (name : Bs) (hnm : name.length ≤ 1000) (ty : Int) (hty : ty = 0 ∨ ty = 1 ∨ ty = 2 ∨ ty = 3) (T : Bs) (w : World) (ao1 ao2 ao3 : Option Addr) (n2 n3 cap1 cap2 cap3 : Nat) (ps : List Pa) (hp : PaL w ao1 cap1 ps)
    (hpt : ∀ p ∈ ps, p.type = 1 ∨ p.type = 2 ∨ p.type = 3) (hpn : ∀ p ∈ ps, p.name.length ≤ 1000) (h8 : ps.length ≤ 8)
    (hT : Hidden ([101, 120, 112, 111, 114, 116, 32] ++ [102, 110, 32] ++ name ++ [40] ++ paT ps ++ [41] ++ tyT ty ++ [32, 123] = T)) :
    Calls Tryz.prog 19 #[.agg #[ci 3, .bool true, ct name, ci ty, .slice ao1 ps.length cap1, .slice ao2 n2 cap2, .slice ao3 n3 cap3]] w fun e w' => e = .returned (ct T) ∧ Fr (fun _ => False) w w' := by
  have f0 := Fr.alloc (fun _ => False) w (deO 3 true name ty (.slice ao1 ps.length cap1) (.slice ao2 n2 cap2) (.slice ao3 n3 cap3))
  have hbx : Hidden ((w.alloc (deO 3 true name ty (.slice ao1 ps.length cap1) (.slice ao2 n2 cap2) (.slice ao3 n3 cap3))).heap[w.heap.size]? = some (deO 3 true name ty (.slice ao1 ps.length cap1) (.slice ao2 n2 cap2) (.slice ao3 n3 cap3))) := alloc_new _ _
  have m1 : cap1 ≤ 9223372036854775807 := by have := hp.2.1; unfold maxLen at this; omega
  have m1' := hp.1
  obtain ⟨_, _, hcells⟩ := hp
  have hbd := paT_bd ps hpn
  obtain ⟨H1, hH1⟩ : ∃ S : Bs, ([101, 120, 112, 111, 114, 116, 32] : Bs) ++ ([102, 110, 32] : Bs) = S := ⟨_, rfl⟩
  obtain ⟨H2, hH2⟩ : ∃ S : Bs, (H1 : Bs) ++ (name : Bs) = S := ⟨_, rfl⟩
  obtain ⟨H3, hH3⟩ : ∃ S : Bs, (H2 : Bs) ++ ([40] : Bs) = S := ⟨_, rfl⟩
  have lenH : H3.length ≤ 140737488355328 := by rw [← hH3, ← hH2, ← hH1]; simp only [List.length_append, List.length_cons, List.length_nil]; omega
  have cH1 := fun w => X.catv [101, 120, 112, 111, 114, 116, 32] [102, 110, 32] H1 hH1 (by have := lenH; rw [← hH3, ← hH2] at this; simp only [List.length_append] at this; omega) w
  have cH2 := fun w => X.catv H1 name H2 hH2 (by have := lenH; rw [← hH3] at this; simp only [List.length_append] at this; omega) w
  have cH3 := fun w => X.catv H2 [40] H3 hH3 (by have := lenH; omega) w
  have HH1 : Hidden (_ = H1) := hH1
  have HH2 : Hidden (_ = H2) := hH2
  have HH3 : Hidden (_ = H3) := hH3
  have hHl : H3.length ≤ 2000 := by rw [← hH3, ← hH2, ← hH1]; simp only [List.length_append, List.length_cons, List.length_nil]; omega
  clear hH1 hH2 hH3 lenH
  have hTT : Hidden (H3 ++ paT ps ++ [41] ++ tyT ty ++ [32, 123] = T) := by show _ = T; rw [← (show _ = H3 from HH3), ← (show _ = H2 from HH2), ← (show _ = H1 from HH1), ← (show _ = T from hT)]
  clear hT
  obtain ⟨c0, c1, c2, c3, c4, c5, c6⟩ := ex_box hbx
  go_enter Tryz.func19, Tryz.ntmps19
  go_wp2_with fail
  clear c0 c1 c2 c3 c4 c5 c6
  go_loopg [3, 4] ps.length (fun g sv iv wr => ∃ (i : Nat) (P : Bs), sv = ct P ∧ iv = ci (i : Int) ∧ i ≤ ps.length ∧ P = H3 ++ paT (ps.take i) ∧ g = ps.length - i ∧ Fr (fun _ => False) (w.alloc (deO 3 true name ty (.slice ao1 ps.length cap1) (.slice ao2 n2 cap2) (.slice ao3 n3 cap3))) wr)
  case atStart => exact ⟨0, H3, rfl, rfl, by omega, by simp [paT], rfl, Fr.refl _ _⟩
  case round =>
    obtain ⟨i, P, rfl, rfl, hi, hP, hgk, hfr⟩ := hrel
    have hgkH : Hidden (gk = ps.length - i) := hgk
    have hPH : Hidden (P = H3 ++ paT (ps.take i)) := hP
    have hPl : P.length ≤ 20000 := by
      have h1 := paT_bd (ps.take i) (fun p hp => hpn p (List.mem_of_mem_take hp))
      rw [hP, List.length_append]
      rw [List.length_take] at h1
      omega
    clear hgk hP
    have hbr := hfr.heap hbx (fun f => f)
    obtain ⟨c0, c1, c2, c3, c4, c5, c6⟩ := ex_box hbr
    by_cases hil : i < ps.length
    · obtain ⟨p, hpi⟩ : ∃ p, ps[i]? = some p := ⟨ps[i], List.getElem?_eq_getElem hil⟩
      have hpm : p ∈ ps := List.mem_of_getElem? hpi
      have ht1 := hpt p hpm
      have hn1 := hpn p hpm
      have hpiH : Hidden (ps[i]? = some p) := hpi
      rcases hcells with h0 | ⟨bb, off, rfl, hc⟩
      · rw [h0] at hil; simp at hil
      have d0 : wr.cell? ⟨bb, off + i * 2, none⟩ = some (ct p.name) := hfr.cellN (f0.cellN (hc i p hpi 0 _ rfl))
      have d1 : wr.cell? ⟨bb, off + i * 2 + 1, none⟩ = some (ci p.type) := hfr.cellN (f0.cellN (hc i p hpi 1 _ rfl))
      have kt := fun (w1 : World) => type_r p.type ht1 w1
      have hty2 := tyT_N ht1
      have hYl : (tyN p.type).length ≤ 10 := by have := Pz.tyT_ln p.type; rw [hty2, List.length_append] at this; omega
      generalize tyN p.type = Y at kt hty2 hYl
      have hty2H : Hidden (tyT p.type = [58, 32] ++ Y) := hty2
      clear hc hpi hty2
      obtain ⟨Q, hQ'⟩ : ∃ Q : Bs, Q = P ++ (if i = 0 then [] else [44, 32]) := ⟨_, rfl⟩
      have hQ : Hidden (Q = P ++ (if i = 0 then [] else [44, 32])) := hQ'
      clear hQ'
      have hQl : Q.length ≤ 20100 := by
        rw [show Q = _ from hQ, List.length_append]
        split <;> simp <;> omega
      obtain ⟨S1, hS1⟩ : ∃ S : Bs, (Q : Bs) ++ (p.name : Bs) = S := ⟨_, rfl⟩
      obtain ⟨S2, hS2⟩ : ∃ S : Bs, (S1 : Bs) ++ ([58, 32] : Bs) = S := ⟨_, rfl⟩
      obtain ⟨S3, hS3⟩ : ∃ S : Bs, (S2 : Bs) ++ (Y : Bs) = S := ⟨_, rfl⟩
      have lenS : S3.length ≤ 140737488355328 := by rw [← hS3, ← hS2, ← hS1]; simp only [List.length_append, List.length_cons, List.length_nil]; omega
      have cS1 := fun w => X.catv Q p.name S1 hS1 (by have := lenS; rw [← hS3, ← hS2] at this; simp only [List.length_append] at this; omega) w
      have cS2 := fun w => X.catv S1 [58, 32] S2 hS2 (by have := lenS; rw [← hS3] at this; simp only [List.length_append] at this; omega) w
      have cS3 := fun w => X.catv S2 Y S3 hS3 (by have := lenS; omega) w
      have HS1 : Hidden (_ = S1) := hS1
      have HS2 : Hidden (_ = S2) := hS2
      have HS3 : Hidden (_ = S3) := hS3
      clear hS1 hS2 hS3 lenS
      have hnext : Hidden (S3 = H3 ++ paT (ps.take (i + 1))) := by
        show _ = _
        have e : ps.take (i + 1) = ps.take i ++ [p] := by rw [List.take_add_one, (show ps[i]? = some p from hpiH)]; rfl
        rw [e, paT_snoc, ← (show _ = S3 from HS3), ← (show _ = S2 from HS2), ← (show _ = S1 from HS1), (show Q = _ from hQ), (show P = _ from hPH), (show tyT p.type = _ from hty2H)]
        by_cases hi0 : i = 0
        · subst hi0; simp
        · have : ps.take i ≠ [] := by
            intro h
            have := congrArg List.length h
            rw [List.length_take, List.length_nil] at this
            omega
          simp [hi0, this]
      have tail : ∀ (wn : World), Fr (fun _ => False) wr wn → ∃ (i2 : Nat) (P : Bs), ct S3 = ct P ∧ ci ((i : Int) + 1) = ci (i2 : Int) ∧ i2 ≤ ps.length ∧ P = H3 ++ paT (ps.take i2) ∧ ps.length - (i + 1) = ps.length - i2 ∧ Fr (fun _ => False) (w.alloc (deO 3 true name ty (.slice (some ⟨bb, off, none⟩) ps.length cap1) (.slice ao2 n2 cap2) (.slice ao3 n3 cap3))) wn :=
        fun wn hw => ⟨i + 1, S3, rfl, by simp, by omega, hnext, rfl, hfr.same hw⟩
      have tailH : Hidden (∀ (wn : World), _ → _) := tail
      clear tail
      by_cases hi0 : i = 0
      · have hi0i : ¬ (0 : Int) < (i : Int) := by omega
        have hQP : Q = P := by rw [show Q = _ from hQ, if_pos hi0]; simp
        subst hQP
        clear hi0
        go_wp2_with fail
        go_region_held3 (fun w' => w'.cell? ⟨w.heap.size, 4, none⟩ = some (.slice (some ⟨bb, off, none⟩) ps.length cap1) ∧ w'.cell? ⟨bb, off + i * 2, none⟩ = some (ct p.name) ∧ w'.cell? ⟨bb, off + i * 2 + 1, none⟩ = some (ci p.type)) (first | (refine ⟨by assumption, by assumption, by assumption⟩) | go_keep) (first
          | (go_at_call 42; refine (kt _).mono ?_; rintro e wt ⟨rfl, hwt⟩; have hwt := hwt.symm; subst hwt))
        go_wp2_with fail
        go_roundg (ps.length - (i + 1))
        case measure =>
          have : gk = ps.length - i := hgkH
          omega
        case rel => exact tailH _ (Fr.drew _ _)
      · have hi0i : (0 : Int) < (i : Int) := by omega
        have hQP : P ++ [44, 32] = Q := by rw [show Q = _ from hQ, if_neg hi0]
        have cQ := fun w => X.catv P [44, 32] Q hQP (by omega) w
        clear hi0 hQP
        go_wp2_with fail
        go_region_held3 (fun w' => w'.cell? ⟨w.heap.size, 4, none⟩ = some (.slice (some ⟨bb, off, none⟩) ps.length cap1) ∧ w'.cell? ⟨bb, off + i * 2, none⟩ = some (ct p.name) ∧ w'.cell? ⟨bb, off + i * 2 + 1, none⟩ = some (ci p.type)) (first | (refine ⟨by assumption, by assumption, by assumption⟩) | go_keep) (first
          | (go_at_call 42; refine (kt _).mono ?_; rintro e wt ⟨rfl, hwt⟩; have hwt := hwt.symm; subst hwt))
        go_wp2_with fail
        go_roundg (ps.length - (i + 1))
        case measure =>
          have : gk = ps.length - i := hgkH
          omega
        case rel => exact tailH _ (Fr.drew _ _)
    · obtain rfl : i = ps.length := by omega
      have hPe : Hidden (P ++ [41] ++ tyT ty ++ [32, 123] = T) := by
        show _ = T
        rw [(show P = _ from hPH), List.take_length]
        exact hTT
      clear hPH hTT
      by_cases h0 : ty = 0
      · subst h0
        obtain ⟨S1, hS1⟩ : ∃ S : Bs, (P : Bs) ++ ([41] : Bs) = S := ⟨_, rfl⟩
        obtain ⟨S2, hS2⟩ : ∃ S : Bs, (S1 : Bs) ++ ([32, 123] : Bs) = S := ⟨_, rfl⟩
        have lenS : S2.length ≤ 140737488355328 := by rw [← hS2, ← hS1]; simp only [List.length_append, List.length_cons, List.length_nil]; omega
        have cS1 := fun w => X.catv P [41] S1 hS1 (by have := lenS; rw [← hS2] at this; simp only [List.length_append] at this; omega) w
        have cS2 := fun w => X.catv S1 [32, 123] S2 hS2 (by have := lenS; omega) w
        have HS1 : Hidden (_ = S1) := hS1
        have HS2 : Hidden (_ = S2) := hS2
        clear hS1 hS2 lenS
        have hST : Hidden (S2 = T) := by show _ = T; rw [← (show _ = S2 from HS2), ← (show _ = S1 from HS1), ← (show _ = T from hPe)]; simp [tyT]
        clear hPe
        go_wp2_with fail
        go_ret
        refine ⟨?_, f0.same hfr⟩
        rw [← (show _ = T from hST)]
        rfl
      · have ht1 : ty = 1 ∨ ty = 2 ∨ ty = 3 := by omega
        have hne : (ty != 0) = true := by simpa using h0
        have kt := fun (w1 : World) => type_r ty ht1 w1
        have hty2 := tyT_N ht1
        have hYl : (tyN ty).length ≤ 10 := by have := Pz.tyT_ln ty; rw [hty2, List.length_append] at this; omega
        generalize tyN ty = Y at kt hty2 hYl
        have hty2H : Hidden (tyT ty = [58, 32] ++ Y) := hty2
        clear hty2 h0
        obtain ⟨S1, hS1⟩ : ∃ S : Bs, (P : Bs) ++ ([41] : Bs) = S := ⟨_, rfl⟩
        obtain ⟨S2, hS2⟩ : ∃ S : Bs, (S1 : Bs) ++ ([58, 32] : Bs) = S := ⟨_, rfl⟩
        obtain ⟨S3, hS3⟩ : ∃ S : Bs, (S2 : Bs) ++ (Y : Bs) = S := ⟨_, rfl⟩
        obtain ⟨S4, hS4⟩ : ∃ S : Bs, (S3 : Bs) ++ ([32, 123] : Bs) = S := ⟨_, rfl⟩
        have lenS : S4.length ≤ 140737488355328 := by rw [← hS4, ← hS3, ← hS2, ← hS1]; simp only [List.length_append, List.length_cons, List.length_nil]; omega
        have cS1 := fun w => X.catv P [41] S1 hS1 (by have := lenS; rw [← hS4, ← hS3, ← hS2] at this; simp only [List.length_append] at this; omega) w
        have cS2 := fun w => X.catv S1 [58, 32] S2 hS2 (by have := lenS; rw [← hS4, ← hS3] at this; simp only [List.length_append] at this; omega) w
        have cS3 := fun w => X.catv S2 Y S3 hS3 (by have := lenS; rw [← hS4] at this; simp only [List.length_append] at this; omega) w
        have cS4 := fun w => X.catv S3 [32, 123] S4 hS4 (by have := lenS; omega) w
        have HS1 : Hidden (_ = S1) := hS1
        have HS2 : Hidden (_ = S2) := hS2
        have HS3 : Hidden (_ = S3) := hS3
        have HS4 : Hidden (_ = S4) := hS4
        clear hS1 hS2 hS3 hS4 lenS
        have hST : Hidden (S4 = T) := by show _ = T; rw [← (show _ = S4 from HS4), ← (show _ = S3 from HS3), ← (show _ = S2 from HS2), ← (show _ = S1 from HS1), ← (show _ = T from hPe), (show tyT ty = _ from hty2H)]; simp
        clear hPe
        go_wp2_with fail
        go_at_call 42
        refine (kt _).mono ?_
        rintro e wt ⟨rfl, hwt⟩
        have hwt := hwt.symm
        subst hwt
        go_wp2_with fail
        go_ret
        refine ⟨?_, f0.same hfr⟩
        rw [← (show _ = T from hST)]
        rfl
set_option maxRecDepth 20000 in
set_option maxHeartbeats 4000000 in
theorem head_3f (name : Bs) (hnm : name.length ≤ 1000) (ty : Int) (hty : ty = 0 ∨ ty = 1 ∨ ty = 2 ∨ ty = 3) (T : Bs) (w : World) (ao1 ao2 ao3 : Option Addr) (n2 n3 cap1 cap2 cap3 : Nat) (ps : List Pa) (hp : PaL w ao1 cap1 ps)
    (hpt : ∀ p ∈ ps, p.type = 1 ∨ p.type = 2 ∨ p.type = 3) (hpn : ∀ p ∈ ps, p.name.length ≤ 1000) (h8 : ps.length ≤ 8)
    (hT : Hidden ([] ++ [102, 110, 32] ++ name ++ [40] ++ paT ps ++ [41] ++ tyT ty ++ [32, 123] = T)) :
    Calls Tryz.prog 19 #[.agg #[ci 3, .bool false, ct name, ci ty, .slice ao1 ps.length cap1, .slice ao2 n2 cap2, .slice ao3 n3 cap3]] w fun e w' => e = .returned (ct T) ∧ Fr (fun _ => False) w w' := by
  have f0 := Fr.alloc (fun _ => False) w (deO 3 false name ty (.slice ao1 ps.length cap1) (.slice ao2 n2 cap2) (.slice ao3 n3 cap3))
  have hbx : Hidden ((w.alloc (deO 3 false name ty (.slice ao1 ps.length cap1) (.slice ao2 n2 cap2) (.slice ao3 n3 cap3))).heap[w.heap.size]? = some (deO 3 false name ty (.slice ao1 ps.length cap1) (.slice ao2 n2 cap2) (.slice ao3 n3 cap3))) := alloc_new _ _
  have m1 : cap1 ≤ 9223372036854775807 := by have := hp.2.1; unfold maxLen at this; omega
  have m1' := hp.1
  obtain ⟨_, _, hcells⟩ := hp
  have hbd := paT_bd ps hpn
  obtain ⟨H1, hH1⟩ : ∃ S : Bs, ([] : Bs) ++ ([102, 110, 32] : Bs) = S := ⟨_, rfl⟩
  obtain ⟨H2, hH2⟩ : ∃ S : Bs, (H1 : Bs) ++ (name : Bs) = S := ⟨_, rfl⟩
  obtain ⟨H3, hH3⟩ : ∃ S : Bs, (H2 : Bs) ++ ([40] : Bs) = S := ⟨_, rfl⟩
  have lenH : H3.length ≤ 140737488355328 := by rw [← hH3, ← hH2, ← hH1]; simp only [List.length_append, List.length_cons, List.length_nil]; omega
  have cH1 := fun w => X.catv [] [102, 110, 32] H1 hH1 (by have := lenH; rw [← hH3, ← hH2] at this; simp only [List.length_append] at this; omega) w
  have cH2 := fun w => X.catv H1 name H2 hH2 (by have := lenH; rw [← hH3] at this; simp only [List.length_append] at this; omega) w
  have cH3 := fun w => X.catv H2 [40] H3 hH3 (by have := lenH; omega) w
  have HH1 : Hidden (_ = H1) := hH1
  have HH2 : Hidden (_ = H2) := hH2
  have HH3 : Hidden (_ = H3) := hH3
  have hHl : H3.length ≤ 2000 := by rw [← hH3, ← hH2, ← hH1]; simp only [List.length_append, List.length_cons, List.length_nil]; omega
  clear hH1 hH2 hH3 lenH
  have hTT : Hidden (H3 ++ paT ps ++ [41] ++ tyT ty ++ [32, 123] = T) := by show _ = T; rw [← (show _ = H3 from HH3), ← (show _ = H2 from HH2), ← (show _ = H1 from HH1), ← (show _ = T from hT)]
  clear hT
  obtain ⟨c0, c1, c2, c3, c4, c5, c6⟩ := ex_box hbx
  go_enter Tryz.func19, Tryz.ntmps19
  go_wp2_with fail
  clear c0 c1 c2 c3 c4 c5 c6
  go_loopg [3, 4] ps.length (fun g sv iv wr => ∃ (i : Nat) (P : Bs), sv = ct P ∧ iv = ci (i : Int) ∧ i ≤ ps.length ∧ P = H3 ++ paT (ps.take i) ∧ g = ps.length - i ∧ Fr (fun _ => False) (w.alloc (deO 3 false name ty (.slice ao1 ps.length cap1) (.slice ao2 n2 cap2) (.slice ao3 n3 cap3))) wr)
  case atStart => exact ⟨0, H3, rfl, rfl, by omega, by simp [paT], rfl, Fr.refl _ _⟩
  case round =>
    obtain ⟨i, P, rfl, rfl, hi, hP, hgk, hfr⟩ := hrel
    have hgkH : Hidden (gk = ps.length - i) := hgk
    have hPH : Hidden (P = H3 ++ paT (ps.take i)) := hP
    have hPl : P.length ≤ 20000 := by
      have h1 := paT_bd (ps.take i) (fun p hp => hpn p (List.mem_of_mem_take hp))
      rw [hP, List.length_append]
      rw [List.length_take] at h1
      omega
    clear hgk hP
    have hbr := hfr.heap hbx (fun f => f)
    obtain ⟨c0, c1, c2, c3, c4, c5, c6⟩ := ex_box hbr
    by_cases hil : i < ps.length
    · obtain ⟨p, hpi⟩ : ∃ p, ps[i]? = some p := ⟨ps[i], List.getElem?_eq_getElem hil⟩
      have hpm : p ∈ ps := List.mem_of_getElem? hpi
      have ht1 := hpt p hpm
      have hn1 := hpn p hpm
      have hpiH : Hidden (ps[i]? = some p) := hpi
      rcases hcells with h0 | ⟨bb, off, rfl, hc⟩
      · rw [h0] at hil; simp at hil
      have d0 : wr.cell? ⟨bb, off + i * 2, none⟩ = some (ct p.name) := hfr.cellN (f0.cellN (hc i p hpi 0 _ rfl))
      have d1 : wr.cell? ⟨bb, off + i * 2 + 1, none⟩ = some (ci p.type) := hfr.cellN (f0.cellN (hc i p hpi 1 _ rfl))
      have kt := fun (w1 : World) => type_r p.type ht1 w1
      have hty2 := tyT_N ht1
      have hYl : (tyN p.type).length ≤ 10 := by have := Pz.tyT_ln p.type; rw [hty2, List.length_append] at this; omega
      generalize tyN p.type = Y at kt hty2 hYl
      have hty2H : Hidden (tyT p.type = [58, 32] ++ Y) := hty2
      clear hc hpi hty2
      obtain ⟨Q, hQ'⟩ : ∃ Q : Bs, Q = P ++ (if i = 0 then [] else [44, 32]) := ⟨_, rfl⟩
      have hQ : Hidden (Q = P ++ (if i = 0 then [] else [44, 32])) := hQ'
      clear hQ'
      have hQl : Q.length ≤ 20100 := by
        rw [show Q = _ from hQ, List.length_append]
        split <;> simp <;> omega
      obtain ⟨S1, hS1⟩ : ∃ S : Bs, (Q : Bs) ++ (p.name : Bs) = S := ⟨_, rfl⟩
      obtain ⟨S2, hS2⟩ : ∃ S : Bs, (S1 : Bs) ++ ([58, 32] : Bs) = S := ⟨_, rfl⟩
      obtain ⟨S3, hS3⟩ : ∃ S : Bs, (S2 : Bs) ++ (Y : Bs) = S := ⟨_, rfl⟩
      have lenS : S3.length ≤ 140737488355328 := by rw [← hS3, ← hS2, ← hS1]; simp only [List.length_append, List.length_cons, List.length_nil]; omega
      have cS1 := fun w => X.catv Q p.name S1 hS1 (by have := lenS; rw [← hS3, ← hS2] at this; simp only [List.length_append] at this; omega) w
      have cS2 := fun w => X.catv S1 [58, 32] S2 hS2 (by have := lenS; rw [← hS3] at this; simp only [List.length_append] at this; omega) w
      have cS3 := fun w => X.catv S2 Y S3 hS3 (by have := lenS; omega) w
      have HS1 : Hidden (_ = S1) := hS1
      have HS2 : Hidden (_ = S2) := hS2
      have HS3 : Hidden (_ = S3) := hS3
      clear hS1 hS2 hS3 lenS
      have hnext : Hidden (S3 = H3 ++ paT (ps.take (i + 1))) := by
        show _ = _
        have e : ps.take (i + 1) = ps.take i ++ [p] := by rw [List.take_add_one, (show ps[i]? = some p from hpiH)]; rfl
        rw [e, paT_snoc, ← (show _ = S3 from HS3), ← (show _ = S2 from HS2), ← (show _ = S1 from HS1), (show Q = _ from hQ), (show P = _ from hPH), (show tyT p.type = _ from hty2H)]
        by_cases hi0 : i = 0
        · subst hi0; simp
        · have : ps.take i ≠ [] := by
            intro h
            have := congrArg List.length h
            rw [List.length_take, List.length_nil] at this
            omega
          simp [hi0, this]
      have tail : ∀ (wn : World), Fr (fun _ => False) wr wn → ∃ (i2 : Nat) (P : Bs), ct S3 = ct P ∧ ci ((i : Int) + 1) = ci (i2 : Int) ∧ i2 ≤ ps.length ∧ P = H3 ++ paT (ps.take i2) ∧ ps.length - (i + 1) = ps.length - i2 ∧ Fr (fun _ => False) (w.alloc (deO 3 false name ty (.slice (some ⟨bb, off, none⟩) ps.length cap1) (.slice ao2 n2 cap2) (.slice ao3 n3 cap3))) wn :=
        fun wn hw => ⟨i + 1, S3, rfl, by simp, by omega, hnext, rfl, hfr.same hw⟩
      have tailH : Hidden (∀ (wn : World), _ → _) := tail
      clear tail
      by_cases hi0 : i = 0
      · have hi0i : ¬ (0 : Int) < (i : Int) := by omega
        have hQP : Q = P := by rw [show Q = _ from hQ, if_pos hi0]; simp
        subst hQP
        clear hi0
        go_wp2_with fail
        go_region_held3 (fun w' => w'.cell? ⟨w.heap.size, 4, none⟩ = some (.slice (some ⟨bb, off, none⟩) ps.length cap1) ∧ w'.cell? ⟨bb, off + i * 2, none⟩ = some (ct p.name) ∧ w'.cell? ⟨bb, off + i * 2 + 1, none⟩ = some (ci p.type)) (first | (refine ⟨by assumption, by assumption, by assumption⟩) | go_keep) (first
          | (go_at_call 42; refine (kt _).mono ?_; rintro e wt ⟨rfl, hwt⟩; have hwt := hwt.symm; subst hwt))
        go_wp2_with fail
        go_roundg (ps.length - (i + 1))
        case measure =>
          have : gk = ps.length - i := hgkH
          omega
        case rel => exact tailH _ (Fr.drew _ _)
      · have hi0i : (0 : Int) < (i : Int) := by omega
        have hQP : P ++ [44, 32] = Q := by rw [show Q = _ from hQ, if_neg hi0]
        have cQ := fun w => X.catv P [44, 32] Q hQP (by omega) w
        clear hi0 hQP
        go_wp2_with fail
        go_region_held3 (fun w' => w'.cell? ⟨w.heap.size, 4, none⟩ = some (.slice (some ⟨bb, off, none⟩) ps.length cap1) ∧ w'.cell? ⟨bb, off + i * 2, none⟩ = some (ct p.name) ∧ w'.cell? ⟨bb, off + i * 2 + 1, none⟩ = some (ci p.type)) (first | (refine ⟨by assumption, by assumption, by assumption⟩) | go_keep) (first
          | (go_at_call 42; refine (kt _).mono ?_; rintro e wt ⟨rfl, hwt⟩; have hwt := hwt.symm; subst hwt))
        go_wp2_with fail
        go_roundg (ps.length - (i + 1))
        case measure =>
          have : gk = ps.length - i := hgkH
          omega
        case rel => exact tailH _ (Fr.drew _ _)
    · obtain rfl : i = ps.length := by omega
      have hPe : Hidden (P ++ [41] ++ tyT ty ++ [32, 123] = T) := by
        show _ = T
        rw [(show P = _ from hPH), List.take_length]
        exact hTT
      clear hPH hTT
      by_cases h0 : ty = 0
      · subst h0
        obtain ⟨S1, hS1⟩ : ∃ S : Bs, (P : Bs) ++ ([41] : Bs) = S := ⟨_, rfl⟩
        obtain ⟨S2, hS2⟩ : ∃ S : Bs, (S1 : Bs) ++ ([32, 123] : Bs) = S := ⟨_, rfl⟩
        have lenS : S2.length ≤ 140737488355328 := by rw [← hS2, ← hS1]; simp only [List.length_append, List.length_cons, List.length_nil]; omega
        have cS1 := fun w => X.catv P [41] S1 hS1 (by have := lenS; rw [← hS2] at this; simp only [List.length_append] at this; omega) w
        have cS2 := fun w => X.catv S1 [32, 123] S2 hS2 (by have := lenS; omega) w
        have HS1 : Hidden (_ = S1) := hS1
        have HS2 : Hidden (_ = S2) := hS2
        clear hS1 hS2 lenS
        have hST : Hidden (S2 = T) := by show _ = T; rw [← (show _ = S2 from HS2), ← (show _ = S1 from HS1), ← (show _ = T from hPe)]; simp [tyT]
        clear hPe
        go_wp2_with fail
        go_ret
        refine ⟨?_, f0.same hfr⟩
        rw [← (show _ = T from hST)]
        rfl
      · have ht1 : ty = 1 ∨ ty = 2 ∨ ty = 3 := by omega
        have hne : (ty != 0) = true := by simpa using h0
        have kt := fun (w1 : World) => type_r ty ht1 w1
        have hty2 := tyT_N ht1
        have hYl : (tyN ty).length ≤ 10 := by have := Pz.tyT_ln ty; rw [hty2, List.length_append] at this; omega
        generalize tyN ty = Y at kt hty2 hYl
        have hty2H : Hidden (tyT ty = [58, 32] ++ Y) := hty2
        clear hty2 h0
        obtain ⟨S1, hS1⟩ : ∃ S : Bs, (P : Bs) ++ ([41] : Bs) = S := ⟨_, rfl⟩
        obtain ⟨S2, hS2⟩ : ∃ S : Bs, (S1 : Bs) ++ ([58, 32] : Bs) = S := ⟨_, rfl⟩
        obtain ⟨S3, hS3⟩ : ∃ S : Bs, (S2 : Bs) ++ (Y : Bs) = S := ⟨_, rfl⟩
        obtain ⟨S4, hS4⟩ : ∃ S : Bs, (S3 : Bs) ++ ([32, 123] : Bs) = S := ⟨_, rfl⟩
        have lenS : S4.length ≤ 140737488355328 := by rw [← hS4, ← hS3, ← hS2, ← hS1]; simp only [List.length_append, List.length_cons, List.length_nil]; omega
        have cS1 := fun w => X.catv P [41] S1 hS1 (by have := lenS; rw [← hS4, ← hS3, ← hS2] at this; simp only [List.length_append] at this; omega) w
        have cS2 := fun w => X.catv S1 [58, 32] S2 hS2 (by have := lenS; rw [← hS4, ← hS3] at this; simp only [List.length_append] at this; omega) w
        have cS3 := fun w => X.catv S2 Y S3 hS3 (by have := lenS; rw [← hS4] at this; simp only [List.length_append] at this; omega) w
        have cS4 := fun w => X.catv S3 [32, 123] S4 hS4 (by have := lenS; omega) w
        have HS1 : Hidden (_ = S1) := hS1
        have HS2 : Hidden (_ = S2) := hS2
        have HS3 : Hidden (_ = S3) := hS3
        have HS4 : Hidden (_ = S4) := hS4
        clear hS1 hS2 hS3 hS4 lenS
        have hST : Hidden (S4 = T) := by show _ = T; rw [← (show _ = S4 from HS4), ← (show _ = S3 from HS3), ← (show _ = S2 from HS2), ← (show _ = S1 from HS1), ← (show _ = T from hPe), (show tyT ty = _ from hty2H)]; simp
        clear hPe
        go_wp2_with fail
        go_at_call 42
        refine (kt _).mono ?_
        rintro e wt ⟨rfl, hwt⟩
        have hwt := hwt.symm
        subst hwt
        go_wp2_with fail
        go_ret
        refine ⟨?_, f0.same hfr⟩
        rw [← (show _ = T from hST)]
        rfl
/-- The head of any right declaration. -/
theorem head_w (d : De) (pv ev bv : Value) (w : World) (hd : DeI w d pv ev bv) (he : errD rnS cnS d = 0) (hO : OkD d) (T : Bs) (hT : hdT d = T) (hl : T.length ≤ 140737488355328) :
    Calls Tryz.prog 19 #[deV d pv ev bv] w fun e w' => e = .returned (ct T) ∧ Fr (fun _ => False) w w' := by
  obtain ⟨ao1, cap1, ao2, cap2, ao3, cap3, rfl, rfl, rfl, hp, hx, hb⟩ := hd
  unfold errD at he
  obtain ⟨a1, a2⟩ := Pz.orE_0 he
  obtain ⟨a3, a4⟩ := Pz.orE_0 a2
  obtain ⟨a5, a6⟩ := Pz.orE_0 a4
  obtain ⟨a7, a8⟩ := Pz.orE_0 a6
  obtain ⟨a9, b1⟩ := Pz.orE_0 a8
  obtain ⟨b2, b3⟩ := Pz.orE_0 b1
  have hfit := Pz.ifx (c := fitsD d = true) a3 (by decide)
  have h8 : d.params.length ≤ 8 := by
    apply Classical.byContradiction
    intro hc
    rw [if_pos (by omega)] at a7
    exact absurd a7 (by decide)
  have isT : ∀ {t : Int}, isTy t = true → t = 1 ∨ t = 2 ∨ t = 3 := by
    intro t h
    simp only [isTy, Bool.or_eq_true, beq_iff_eq] at h
    omega
  obtain ⟨k, ex, name, ty, ps, e, bo⟩ := d
  obtain ⟨o1, o2, o3, o4, o5, o6⟩ := hO
  simp only at *
  unfold fitsD at hfit
  simp only at hfit
  by_cases k1 : k = 1
  · subst k1
    rw [if_pos rfl, Bool.and_eq_true, decide_eq_true_eq] at hfit
    obtain ⟨x, kx, b0, off, aok, capk, rfl, rfl, q1, q2, q3, q4, hk, c0, c1, c2, c3, c4, c5, c6⟩ := one_ex hx o5 b2 hfit.2.1
    cases ex
    · exact head_1f name ty (isT hfit.1) T w ao1 ao3 ps.length bo.len cap1 cap3 x kx b0 off cap2 aok capk q1 q2 q3 q4 hk c0 c1 c2 c3 c4 c5 c6 (by show _ = T; rw [← hT]; simp [hdT, exT, txF, txA_one]) hl
    · exact head_1t name ty (isT hfit.1) T w ao1 ao3 ps.length bo.len cap1 cap3 x kx b0 off cap2 aok capk q1 q2 q3 q4 hk c0 c1 c2 c3 c4 c5 c6 (by show _ = T; rw [← hT]; simp [hdT, exT, txF, txA_one]) hl
  rw [if_neg k1] at hfit
  by_cases k2 : k = 2
  · subst k2
    rw [if_pos rfl, Bool.and_eq_true, Bool.and_eq_true, decide_eq_true_eq] at hfit
    obtain ⟨x, kx, b0, off, aok, capk, rfl, rfl, q1, q2, q3, q4, hk, c0, c1, c2, c3, c4, c5, c6⟩ := one_ex hx o5 b2 hfit.2.1
    obtain rfl : ex = false := by simpa using hfit.1.1
    exact head_2f name ty (isT hfit.1.2) T w ao1 ao3 ps.length bo.len cap1 cap3 x kx b0 off cap2 aok capk q1 q2 q3 q4 hk c0 c1 c2 c3 c4 c5 c6 (by show _ = T; rw [← hT]; simp [hdT, exT, txF, txA_one]) hl
  rw [if_neg k2] at hfit
  by_cases k3 : k = 3
  · subst k3
    rw [if_pos rfl, Bool.and_eq_true, decide_eq_true_eq] at hfit
    have hty : ty = 0 ∨ ty = 1 ∨ ty = 2 ∨ ty = 3 := by
      have := hfit.1
      rw [Bool.or_eq_true] at this
      rcases this with h | h
      · exact Or.inl (by simpa using h)
      · have := isT h
        omega
    have hpa : ∀ p ∈ ps, rnS p.name = 0 ∧ isTy p.type = true := Pz.errP_of ps a9
    have hnm := rn_len a5
    cases ex
    · exact head_3f name (by omega) ty hty T w ao1 ao2 ao3 e.len bo.len cap1 cap2 cap3 ps hp (fun p hp => isT (hpa p hp).2) (fun p hp => by have := rn_len (hpa p hp).1; omega) h8 (by show _ = T; rw [← hT]; simp [hdT, exT])
    · exact head_3t name (by omega) ty hty T w ao1 ao2 ao3 e.len bo.len cap1 cap2 cap3 ps hp (fun p hp => isT (hpa p hp).2) (fun p hp => by have := rn_len (hpa p hp).1; omega) h8 (by show _ = T; rw [← hT]; simp [hdT, exT])
  rw [if_neg k3] at hfit
  cases hfit
end Go.Proofs.YteijjaabngkbjaaGreatDoor.V
