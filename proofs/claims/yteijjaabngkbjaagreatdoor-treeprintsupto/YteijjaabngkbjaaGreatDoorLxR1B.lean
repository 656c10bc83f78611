/- PvD TrIn TrXr LxCov LxR1 -/
import Derived.Test.YteijjaabngkbjaaGreatDoorPvCB
import Derived.Test.YteijjaabngkbjaaGreatDoorTrX4B
import Derived.Deep.Slices
import Derived.Deep.Strs
import Derived.ChangeSlices
import Derived.ChangeArms
import Derived.DataReads
import Derived.Test.YteijjaabngkbjaaGreatDoorTrX9B
import Derived.Test.YteijjaabngkbjaaGreatDoorTrTAll
import Derived.Test.YteijjaabngkbjaaGreatDoorTrFB
import Derived.Test.YteijjaabngkbjaaGreatDoorLxAll
import Derived.Deep.QuietTactic
import Derived.BigQuiet
namespace Go.Proofs.YteijjaabngkbjaaGreatDoor.V
open Go.RowKit Te
set_option linter.unusedSimpArgs false
set_option linter.unusedVariables false
theorem paT_snoc : ∀ (l : List Pa) (p : Pa), paT (l ++ [p]) = paT l ++ (if l = [] then [] else [44, 32]) ++ (p.name ++ tyT p.type)
  | [], p => by simp [paT]
  | [q], p => by simp [paT]
  | q :: r :: l, p => by
    have := paT_snoc (r :: l) p
    simp only [List.cons_append, paT] at this ⊢
    rw [this]
    simp
theorem paT_bd : ∀ (l : List Pa), (∀ p ∈ l, p.name.length ≤ 1000) → (paT l).length ≤ 2000 * l.length
  | [], _ => by simp [paT]
  | [p], h => by
    have := h p (by simp)
    have := Pz.tyT_ln p.type
    simp only [paT, List.length_append, List.length_cons, List.length_nil]
    omega
  | p :: q :: r, h => by
    have := h p (by simp)
    have := Pz.tyT_ln p.type
    have := paT_bd (q :: r) (fun x hx => h x (by simp [hx]))
    simp only [paT, List.length_append, List.length_cons, List.length_nil] at *
    omega
set_option maxRecDepth 20000 in
set_option maxHeartbeats 4000000 in
theorem head_3t (name : Bs) (hnm : name.length ≤ 1000) (ty : Int) (hty : ty = 0 ∨ ty = 1 ∨ ty = 2 ∨ ty = 3) (T : Bs) (w : World) (ao1 ao2 ao3 : Option Addr) (n2 n3 cap1 cap2 cap3 : Nat) (ps : List Pa) (hp : PaL w ao1 cap1 ps)
    (hpt : ∀ p ∈ ps, p.type = 1 ∨ p.type = 2 ∨ p.type = 3) (hpn : ∀ p ∈ ps, p.name.length ≤ 1000) (h8 : ps.length ≤ 8)
    (hT : Hidden ([101, 120, 112, 111, 114, 116, 32] ++ [102, 110, 32] ++ name ++ [40] ++ paT ps ++ [41] ++ tyT ty ++ [32, 123] = T)) :
    Calls Tryz.prog 19 #[.agg #[ci 3, .bool true, ct name, ci ty, .slice ao1 ps.length cap1, .slice ao2 n2 cap2, .slice ao3 n3 cap3]] w fun e w' => e = .returned (ct T) ∧ Fr (fun _ => False) w w' := by
  have f0 := Fr.alloc (fun _ => False) w (deO 3 true name ty (.slice ao1 ps.length cap1) (.slice ao2 n2 cap2) (.slice ao3 n3 cap3))
  have hbx : Hidden ((w.alloc (deO 3 true name ty (.slice ao1 ps.length cap1) (.slice ao2 n2 cap2) (.slice ao3 n3 cap3))).heap[w.heap.size]? = some (deO 3 true name ty (.slice ao1 ps.length cap1) (.slice ao2 n2 cap2) (.slice ao3 n3 cap3))) := alloc_new _ _
  have m1 : cap1 ≤ 9223372036854775807 := by have := hp.2.1; unfold maxLen at this; omega
  have m1' := hp.1
  obtain ⟨_, _, hcells⟩ := hp
  have hbd := paT_bd ps hpn
  obtain ⟨H1, hH1⟩ : ∃ S : Bs, ([101, 120, 112, 111, 114, 116, 32] : Bs) ++ ([102, 110, 32] : Bs) = S := ⟨_, rfl⟩
  obtain ⟨H2, hH2⟩ : ∃ S : Bs, (H1 : Bs) ++ (name : Bs) = S := ⟨_, rfl⟩
  obtain ⟨H3, hH3⟩ : ∃ S : Bs, (H2 : Bs) ++ ([40] : Bs) = S := ⟨_, rfl⟩
  have lenH : H3.length ≤ 140737488355328 := by rw [← hH3, ← hH2, ← hH1]; simp only [List.length_append, List.length_cons, List.length_nil]; omega
  have cH1 := fun w => X.catv [101, 120, 112, 111, 114, 116, 32] [102, 110, 32] H1 hH1 (by have := lenH; rw [← hH3, ← hH2] at this; simp only [List.length_append] at this; omega) w
  have cH2 := fun w => X.catv H1 name H2 hH2 (by have := lenH; rw [← hH3] at this; simp only [List.length_append] at this; omega) w
  have cH3 := fun w => X.catv H2 [40] H3 hH3 (by have := lenH; omega) w
  have HH1 : Hidden (_ = H1) := hH1
  have HH2 : Hidden (_ = H2) := hH2
  have HH3 : Hidden (_ = H3) := hH3
  have hHl : H3.length ≤ 2000 := by rw [← hH3, ← hH2, ← hH1]; simp only [List.length_append, List.length_cons, List.length_nil]; omega
  clear hH1 hH2 hH3 lenH
  have hTT : Hidden (H3 ++ paT ps ++ [41] ++ tyT ty ++ [32, 123] = T) := by show _ = T; rw [← (show _ = H3 from HH3), ← (show _ = H2 from HH2), ← (show _ = H1 from HH1), ← (show _ = T from hT)]
  clear hT
  obtain ⟨c0, c1, c2, c3, c4, c5, c6⟩ := ex_box hbx
  go_enter Tryz.func19, Tryz.ntmps19
  go_wp2_with fail
  clear c0 c1 c2 c3 c4 c5 c6
  go_loopg [3, 4] ps.length (fun g sv iv wr => ∃ (i : Nat) (P : Bs), sv = ct P ∧ iv = ci (i : Int) ∧ i ≤ ps.length ∧ P = H3 ++ paT (ps.take i) ∧ g = ps.length - i ∧ Fr (fun _ => False) (w.alloc (deO 3 true name ty (.slice ao1 ps.length cap1) (.slice ao2 n2 cap2) (.slice ao3 n3 cap3))) wr)
  case atStart => exact ⟨0, H3, rfl, rfl, by omega, by simp [paT], rfl, Fr.refl _ _⟩
  case round =>
    obtain ⟨i, P, rfl, rfl, hi, hP, hgk, hfr⟩ := hrel
    have hgkH : Hidden (gk = ps.length - i) := hgk
    have hPH : Hidden (P = H3 ++ paT (ps.take i)) := hP
    have hPl : P.length ≤ 20000 := by
      have h1 := paT_bd (ps.take i) (fun p hp => hpn p (List.mem_of_mem_take hp))
      rw [hP, List.length_append]
      rw [List.length_take] at h1
      omega
    clear hgk hP
    have hbr := hfr.heap hbx (fun f => f)
    obtain ⟨c0, c1, c2, c3, c4, c5, c6⟩ := ex_box hbr
    by_cases hil : i < ps.length
    · obtain ⟨p, hpi⟩ : ∃ p, ps[i]? = some p := ⟨ps[i], List.getElem?_eq_getElem hil⟩
      have hpm : p ∈ ps := List.mem_of_getElem? hpi
      have ht1 := hpt p hpm
      have hn1 := hpn p hpm
      have hpiH : Hidden (ps[i]? = some p) := hpi
      rcases hcells with h0 | ⟨bb, off, rfl, hc⟩
      · rw [h0] at hil; simp at hil
      have d0 : wr.cell? ⟨bb, off + i * 2, none⟩ = some (ct p.name) := hfr.cellN (f0.cellN (hc i p hpi 0 _ rfl))
      have d1 : wr.cell? ⟨bb, off + i * 2 + 1, none⟩ = some (ci p.type) := hfr.cellN (f0.cellN (hc i p hpi 1 _ rfl))
      have kt := fun (w1 : World) => type_r p.type ht1 w1
      have hty2 := tyT_N ht1
      have hYl : (tyN p.type).length ≤ 10 := by have := Pz.tyT_ln p.type; rw [hty2, List.length_append] at this; omega
      generalize tyN p.type = Y at kt hty2 hYl
      have hty2H : Hidden (tyT p.type = [58, 32] ++ Y) := hty2
      clear hc hpi hty2
      obtain ⟨Q, hQ'⟩ : ∃ Q : Bs, Q = P ++ (if i = 0 then [] else [44, 32]) := ⟨_, rfl⟩
      have hQ : Hidden (Q = P ++ (if i = 0 then [] else [44, 32])) := hQ'
      clear hQ'
      have hQl : Q.length ≤ 20100 := by
        rw [show Q = _ from hQ, List.length_append]
        split <;> simp <;> omega
      obtain ⟨S1, hS1⟩ : ∃ S : Bs, (Q : Bs) ++ (p.name : Bs) = S := ⟨_, rfl⟩
      obtain ⟨S2, hS2⟩ : ∃ S : Bs, (S1 : Bs) ++ ([58, 32] : Bs) = S := ⟨_, rfl⟩
      obtain ⟨S3, hS3⟩ : ∃ S : Bs, (S2 : Bs) ++ (Y : Bs) = S := ⟨_, rfl⟩
      have lenS : S3.length ≤ 140737488355328 := by rw [← hS3, ← hS2, ← hS1]; simp only [List.length_append, List.length_cons, List.length_nil]; omega
      have cS1 := fun w => X.catv Q p.name S1 hS1 (by have := lenS; rw [← hS3, ← hS2] at this; simp only [List.length_append] at this; omega) w
      have cS2 := fun w => X.catv S1 [58, 32] S2 hS2 (by have := lenS; rw [← hS3] at this; simp only [List.length_append] at this; omega) w
      have cS3 := fun w => X.catv S2 Y S3 hS3 (by have := lenS; omega) w
      have HS1 : Hidden (_ = S1) := hS1
      have HS2 : Hidden (_ = S2) := hS2
      have HS3 : Hidden (_ = S3) := hS3
      clear hS1 hS2 hS3 lenS
      have hnext : Hidden (S3 = H3 ++ paT (ps.take (i + 1))) := by
        show _ = _
        have e : ps.take (i + 1) = ps.take i ++ [p] := by rw [List.take_add_one, (show ps[i]? = some p from hpiH)]; rfl
        rw [e, paT_snoc, ← (show _ = S3 from HS3), ← (show _ = S2 from HS2), ← (show _ = S1 from HS1), (show Q = _ from hQ), (show P = _ from hPH), (show tyT p.type = _ from hty2H)]
        by_cases hi0 : i = 0
        · subst hi0; simp
        · have : ps.take i ≠ [] := by
            intro h
            have := congrArg List.length h
            rw [List.length_take, List.length_nil] at this
            omega
          simp [hi0, this]
      have tail : ∀ (wn : World), Fr (fun _ => False) wr wn → ∃ (i2 : Nat) (P : Bs), ct S3 = ct P ∧ ci ((i : Int) + 1) = ci (i2 : Int) ∧ i2 ≤ ps.length ∧ P = H3 ++ paT (ps.take i2) ∧ ps.length - (i + 1) = ps.length - i2 ∧ Fr (fun _ => False) (w.alloc (deO 3 true name ty (.slice (some ⟨bb, off, none⟩) ps.length cap1) (.slice ao2 n2 cap2) (.slice ao3 n3 cap3))) wn :=
        fun wn hw => ⟨i + 1, S3, rfl, by simp, by omega, hnext, rfl, hfr.same hw⟩
      have tailH : Hidden (∀ (wn : World), _ → _) := tail
      clear tail
      by_cases hi0 : i = 0
      · have hi0i : ¬ (0 : Int) < (i : Int) := by omega
        have hQP : Q = P := by rw [show Q = _ from hQ, if_pos hi0]; simp
        subst hQP
        clear hi0
        go_wp2_with fail
        go_region_held3 (fun w' => w'.cell? ⟨w.heap.size, 4, none⟩ = some (.slice (some ⟨bb, off, none⟩) ps.length cap1) ∧ w'.cell? ⟨bb, off + i * 2, none⟩ = some (ct p.name) ∧ w'.cell? ⟨bb, off + i * 2 + 1, none⟩ = some (ci p.type)) (first | (refine ⟨by assumption, by assumption, by assumption⟩) | go_keep) (first
          | (go_at_call 42; refine (kt _).mono ?_; rintro e wt ⟨rfl, hwt⟩; have hwt := hwt.symm; subst hwt))
        go_wp2_with fail
        go_roundg (ps.length - (i + 1))
        case measure =>
          have : gk = ps.length - i := hgkH
          omega
        case rel => exact tailH _ (Fr.drew _ _)
      · have hi0i : (0 : Int) < (i : Int) := by omega
        have hQP : P ++ [44, 32] = Q := by rw [show Q = _ from hQ, if_neg hi0]
        have cQ := fun w => X.catv P [44, 32] Q hQP (by omega) w
        clear hi0 hQP
        go_wp2_with fail
        go_region_held3 (fun w' => w'.cell? ⟨w.heap.size, 4, none⟩ = some (.slice (some ⟨bb, off, none⟩) ps.length cap1) ∧ w'.cell? ⟨bb, off + i * 2, none⟩ = some (ct p.name) ∧ w'.cell? ⟨bb, off + i * 2 + 1, none⟩ = some (ci p.type)) (first | (refine ⟨by assumption, by assumption, by assumption⟩) | go_keep) (first
          | (go_at_call 42; refine (kt _).mono ?_; rintro e wt ⟨rfl, hwt⟩; have hwt := hwt.symm; subst hwt))
        go_wp2_with fail
        go_roundg (ps.length - (i + 1))
        case measure =>
          have : gk = ps.length - i := hgkH
          omega
        case rel => exact tailH _ (Fr.drew _ _)
    · obtain rfl : i = ps.length := by omega
      have hPe : Hidden (P ++ [41] ++ tyT ty ++ [32, 123] = T) := by
        show _ = T
        rw [(show P = _ from hPH), List.take_length]
        exact hTT
      clear hPH hTT
      by_cases h0 : ty = 0
      · subst h0
        obtain ⟨S1, hS1⟩ : ∃ S : Bs, (P : Bs) ++ ([41] : Bs) = S := ⟨_, rfl⟩
        obtain ⟨S2, hS2⟩ : ∃ S : Bs, (S1 : Bs) ++ ([32, 123] : Bs) = S := ⟨_, rfl⟩
        have lenS : S2.length ≤ 140737488355328 := by rw [← hS2, ← hS1]; simp only [List.length_append, List.length_cons, List.length_nil]; omega
        have cS1 := fun w => X.catv P [41] S1 hS1 (by have := lenS; rw [← hS2] at this; simp only [List.length_append] at this; omega) w
        have cS2 := fun w => X.catv S1 [32, 123] S2 hS2 (by have := lenS; omega) w
        have HS1 : Hidden (_ = S1) := hS1
        have HS2 : Hidden (_ = S2) := hS2
        clear hS1 hS2 lenS
        have hST : Hidden (S2 = T) := by show _ = T; rw [← (show _ = S2 from HS2), ← (show _ = S1 from HS1), ← (show _ = T from hPe)]; simp [tyT]
        clear hPe
        go_wp2_with fail
        go_ret
        refine ⟨?_, f0.same hfr⟩
        rw [← (show _ = T from hST)]
        rfl
      · have ht1 : ty = 1 ∨ ty = 2 ∨ ty = 3 := by omega
        have hne : (ty != 0) = true := by simpa using h0
        have kt := fun (w1 : World) => type_r ty ht1 w1
        have hty2 := tyT_N ht1
        have hYl : (tyN ty).length ≤ 10 := by have := Pz.tyT_ln ty; rw [hty2, List.length_append] at this; omega
        generalize tyN ty = Y at kt hty2 hYl
        have hty2H : Hidden (tyT ty = [58, 32] ++ Y) := hty2
        clear hty2 h0
        obtain ⟨S1, hS1⟩ : ∃ S : Bs, (P : Bs) ++ ([41] : Bs) = S := ⟨_, rfl⟩
        obtain ⟨S2, hS2⟩ : ∃ S : Bs, (S1 : Bs) ++ ([58, 32] : Bs) = S := ⟨_, rfl⟩
        obtain ⟨S3, hS3⟩ : ∃ S : Bs, (S2 : Bs) ++ (Y : Bs) = S := ⟨_, rfl⟩
        obtain ⟨S4, hS4⟩ : ∃ S : Bs, (S3 : Bs) ++ ([32, 123] : Bs) = S := ⟨_, rfl⟩
        have lenS : S4.length ≤ 140737488355328 := by rw [← hS4, ← hS3, ← hS2, ← hS1]; simp only [List.length_append, List.length_cons, List.length_nil]; omega
        have cS1 := fun w => X.catv P [41] S1 hS1 (by have := lenS; rw [← hS4, ← hS3, ← hS2] at this; simp only [List.length_append] at this; omega) w
        have cS2 := fun w => X.catv S1 [58, 32] S2 hS2 (by have := lenS; rw [← hS4, ← hS3] at this; simp only [List.length_append] at this; omega) w
        have cS3 := fun w => X.catv S2 Y S3 hS3 (by have := lenS; rw [← hS4] at this; simp only [List.length_append] at this; omega) w
        have cS4 := fun w => X.catv S3 [32, 123] S4 hS4 (by have := lenS; omega) w
        have HS1 : Hidden (_ = S1) := hS1
        have HS2 : Hidden (_ = S2) := hS2
        have HS3 : Hidden (_ = S3) := hS3
        have HS4 : Hidden (_ = S4) := hS4
        clear hS1 hS2 hS3 hS4 lenS
        have hST : Hidden (S4 = T) := by show _ = T; rw [← (show _ = S4 from HS4), ← (show _ = S3 from HS3), ← (show _ = S2 from HS2), ← (show _ = S1 from HS1), ← (show _ = T from hPe), (show tyT ty = _ from hty2H)]; simp
        clear hPe
        go_wp2_with fail
        go_at_call 42
        refine (kt _).mono ?_
        rintro e wt ⟨rfl, hwt⟩
        have hwt := hwt.symm
        subst hwt
        go_wp2_with fail
        go_ret
        refine ⟨?_, f0.same hfr⟩
        rw [← (show _ = T from hST)]
        rfl
set_option maxRecDepth 20000 in
set_option maxHeartbeats 4000000 in
theorem head_3f (name : Bs) (hnm : name.length ≤ 1000) (ty : Int) (hty : ty = 0 ∨ ty = 1 ∨ ty = 2 ∨ ty = 3) (T : Bs) (w : World) (ao1 ao2 ao3 : Option Addr) (n2 n3 cap1 cap2 cap3 : Nat) (ps : List Pa) (hp : PaL w ao1 cap1 ps)
    (hpt : ∀ p ∈ ps, p.type = 1 ∨ p.type = 2 ∨ p.type = 3) (hpn : ∀ p ∈ ps, p.name.length ≤ 1000) (h8 : ps.length ≤ 8)
    (hT : Hidden ([] ++ [102, 110, 32] ++ name ++ [40] ++ paT ps ++ [41] ++ tyT ty ++ [32, 123] = T)) :
    Calls Tryz.prog 19 #[.agg #[ci 3, .bool false, ct name, ci ty, .slice ao1 ps.length cap1, .slice ao2 n2 cap2, .slice ao3 n3 cap3]] w fun e w' => e = .returned (ct T) ∧ Fr (fun _ => False) w w' := by
  have f0 := Fr.alloc (fun _ => False) w (deO 3 false name ty (.slice ao1 ps.length cap1) (.slice ao2 n2 cap2) (.slice ao3 n3 cap3))
  have hbx : Hidden ((w.alloc (deO 3 false name ty (.slice ao1 ps.length cap1) (.slice ao2 n2 cap2) (.slice ao3 n3 cap3))).heap[w.heap.size]? = some (deO 3 false name ty (.slice ao1 ps.length cap1) (.slice ao2 n2 cap2) (.slice ao3 n3 cap3))) := alloc_new _ _
  have m1 : cap1 ≤ 9223372036854775807 := by have := hp.2.1; unfold maxLen at this; omega
  have m1' := hp.1
  obtain ⟨_, _, hcells⟩ := hp
  have hbd := paT_bd ps hpn
  obtain ⟨H1, hH1⟩ : ∃ S : Bs, ([] : Bs) ++ ([102, 110, 32] : Bs) = S := ⟨_, rfl⟩
  obtain ⟨H2, hH2⟩ : ∃ S : Bs, (H1 : Bs) ++ (name : Bs) = S := ⟨_, rfl⟩
  obtain ⟨H3, hH3⟩ : ∃ S : Bs, (H2 : Bs) ++ ([40] : Bs) = S := ⟨_, rfl⟩
  have lenH : H3.length ≤ 140737488355328 := by rw [← hH3, ← hH2, ← hH1]; simp only [List.length_append, List.length_cons, List.length_nil]; omega
  have cH1 := fun w => X.catv [] [102, 110, 32] H1 hH1 (by have := lenH; rw [← hH3, ← hH2] at this; simp only [List.length_append] at this; omega) w
  have cH2 := fun w => X.catv H1 name H2 hH2 (by have := lenH; rw [← hH3] at this; simp only [List.length_append] at this; omega) w
  have cH3 := fun w => X.catv H2 [40] H3 hH3 (by have := lenH; omega) w
  have HH1 : Hidden (_ = H1) := hH1
  have HH2 : Hidden (_ = H2) := hH2
  have HH3 : Hidden (_ = H3) := hH3
  have hHl : H3.length ≤ 2000 := by rw [← hH3, ← hH2, ← hH1]; simp only [List.length_append, List.length_cons, List.length_nil]; omega
  clear hH1 hH2 hH3 lenH
  have hTT : Hidden (H3 ++ paT ps ++ [41] ++ tyT ty ++ [32, 123] = T) := by show _ = T; rw [← (show _ = H3 from HH3), ← (show _ = H2 from HH2), ← (show _ = H1 from HH1), ← (show _ = T from hT)]
  clear hT
  obtain ⟨c0, c1, c2, c3, c4, c5, c6⟩ := ex_box hbx
  go_enter Tryz.func19, Tryz.ntmps19
  go_wp2_with fail
  clear c0 c1 c2 c3 c4 c5 c6
  go_loopg [3, 4] ps.length (fun g sv iv wr => ∃ (i : Nat) (P : Bs), sv = ct P ∧ iv = ci (i : Int) ∧ i ≤ ps.length ∧ P = H3 ++ paT (ps.take i) ∧ g = ps.length - i ∧ Fr (fun _ => False) (w.alloc (deO 3 false name ty (.slice ao1 ps.length cap1) (.slice ao2 n2 cap2) (.slice ao3 n3 cap3))) wr)
  case atStart => exact ⟨0, H3, rfl, rfl, by omega, by simp [paT], rfl, Fr.refl _ _⟩
  case round =>
    obtain ⟨i, P, rfl, rfl, hi, hP, hgk, hfr⟩ := hrel
    have hgkH : Hidden (gk = ps.length - i) := hgk
    have hPH : Hidden (P = H3 ++ paT (ps.take i)) := hP
    have hPl : P.length ≤ 20000 := by
      have h1 := paT_bd (ps.take i) (fun p hp => hpn p (List.mem_of_mem_take hp))
      rw [hP, List.length_append]
      rw [List.length_take] at h1
      omega
    clear hgk hP
    have hbr := hfr.heap hbx (fun f => f)
    obtain ⟨c0, c1, c2, c3, c4, c5, c6⟩ := ex_box hbr
    by_cases hil : i < ps.length
    · obtain ⟨p, hpi⟩ : ∃ p, ps[i]? = some p := ⟨ps[i], List.getElem?_eq_getElem hil⟩
      have hpm : p ∈ ps := List.mem_of_getElem? hpi
      have ht1 := hpt p hpm
      have hn1 := hpn p hpm
      have hpiH : Hidden (ps[i]? = some p) := hpi
      rcases hcells with h0 | ⟨bb, off, rfl, hc⟩
      · rw [h0] at hil; simp at hil
      have d0 : wr.cell? ⟨bb, off + i * 2, none⟩ = some (ct p.name) := hfr.cellN (f0.cellN (hc i p hpi 0 _ rfl))
      have d1 : wr.cell? ⟨bb, off + i * 2 + 1, none⟩ = some (ci p.type) := hfr.cellN (f0.cellN (hc i p hpi 1 _ rfl))
      have kt := fun (w1 : World) => type_r p.type ht1 w1
      have hty2 := tyT_N ht1
      have hYl : (tyN p.type).length ≤ 10 := by have := Pz.tyT_ln p.type; rw [hty2, List.length_append] at this; omega
      generalize tyN p.type = Y at kt hty2 hYl
      have hty2H : Hidden (tyT p.type = [58, 32] ++ Y) := hty2
      clear hc hpi hty2
      obtain ⟨Q, hQ'⟩ : ∃ Q : Bs, Q = P ++ (if i = 0 then [] else [44, 32]) := ⟨_, rfl⟩
      have hQ : Hidden (Q = P ++ (if i = 0 then [] else [44, 32])) := hQ'
      clear hQ'
      have hQl : Q.length ≤ 20100 := by
        rw [show Q = _ from hQ, List.length_append]
        split <;> simp <;> omega
      obtain ⟨S1, hS1⟩ : ∃ S : Bs, (Q : Bs) ++ (p.name : Bs) = S := ⟨_, rfl⟩
      obtain ⟨S2, hS2⟩ : ∃ S : Bs, (S1 : Bs) ++ ([58, 32] : Bs) = S := ⟨_, rfl⟩
      obtain ⟨S3, hS3⟩ : ∃ S : Bs, (S2 : Bs) ++ (Y : Bs) = S := ⟨_, rfl⟩
      have lenS : S3.length ≤ 140737488355328 := by rw [← hS3, ← hS2, ← hS1]; simp only [List.length_append, List.length_cons, List.length_nil]; omega
      have cS1 := fun w => X.catv Q p.name S1 hS1 (by have := lenS; rw [← hS3, ← hS2] at this; simp only [List.length_append] at this; omega) w
      have cS2 := fun w => X.catv S1 [58, 32] S2 hS2 (by have := lenS; rw [← hS3] at this; simp only [List.length_append] at this; omega) w
      have cS3 := fun w => X.catv S2 Y S3 hS3 (by have := lenS; omega) w
      have HS1 : Hidden (_ = S1) := hS1
      have HS2 : Hidden (_ = S2) := hS2
      have HS3 : Hidden (_ = S3) := hS3
      clear hS1 hS2 hS3 lenS
      have hnext : Hidden (S3 = H3 ++ paT (ps.take (i + 1))) := by
        show _ = _
        have e : ps.take (i + 1) = ps.take i ++ [p] := by rw [List.take_add_one, (show ps[i]? = some p from hpiH)]; rfl
        rw [e, paT_snoc, ← (show _ = S3 from HS3), ← (show _ = S2 from HS2), ← (show _ = S1 from HS1), (show Q = _ from hQ), (show P = _ from hPH), (show tyT p.type = _ from hty2H)]
        by_cases hi0 : i = 0
        · subst hi0; simp
        · have : ps.take i ≠ [] := by
            intro h
            have := congrArg List.length h
            rw [List.length_take, List.length_nil] at this
            omega
          simp [hi0, this]
      have tail : ∀ (wn : World), Fr (fun _ => False) wr wn → ∃ (i2 : Nat) (P : Bs), ct S3 = ct P ∧ ci ((i : Int) + 1) = ci (i2 : Int) ∧ i2 ≤ ps.length ∧ P = H3 ++ paT (ps.take i2) ∧ ps.length - (i + 1) = ps.length - i2 ∧ Fr (fun _ => False) (w.alloc (deO 3 false name ty (.slice (some ⟨bb, off, none⟩) ps.length cap1) (.slice ao2 n2 cap2) (.slice ao3 n3 cap3))) wn :=
        fun wn hw => ⟨i + 1, S3, rfl, by simp, by omega, hnext, rfl, hfr.same hw⟩
      have tailH : Hidden (∀ (wn : World), _ → _) := tail
      clear tail
      by_cases hi0 : i = 0
      · have hi0i : ¬ (0 : Int) < (i : Int) := by omega
        have hQP : Q = P := by rw [show Q = _ from hQ, if_pos hi0]; simp
        subst hQP
        clear hi0
        go_wp2_with fail
        go_region_held3 (fun w' => w'.cell? ⟨w.heap.size, 4, none⟩ = some (.slice (some ⟨bb, off, none⟩) ps.length cap1) ∧ w'.cell? ⟨bb, off + i * 2, none⟩ = some (ct p.name) ∧ w'.cell? ⟨bb, off + i * 2 + 1, none⟩ = some (ci p.type)) (first | (refine ⟨by assumption, by assumption, by assumption⟩) | go_keep) (first
          | (go_at_call 42; refine (kt _).mono ?_; rintro e wt ⟨rfl, hwt⟩; have hwt := hwt.symm; subst hwt))
        go_wp2_with fail
        go_roundg (ps.length - (i + 1))
        case measure =>
          have : gk = ps.length - i := hgkH
          omega
        case rel => exact tailH _ (Fr.drew _ _)
      · have hi0i : (0 : Int) < (i : Int) := by omega
        have hQP : P ++ [44, 32] = Q := by rw [show Q = _ from hQ, if_neg hi0]
        have cQ := fun w => X.catv P [44, 32] Q hQP (by omega) w
        clear hi0 hQP
        go_wp2_with fail
        go_region_held3 (fun w' => w'.cell? ⟨w.heap.size, 4, none⟩ = some (.slice (some ⟨bb, off, none⟩) ps.length cap1) ∧ w'.cell? ⟨bb, off + i * 2, none⟩ = some (ct p.name) ∧ w'.cell? ⟨bb, off + i * 2 + 1, none⟩ = some (ci p.type)) (first | (refine ⟨by assumption, by assumption, by assumption⟩) | go_keep) (first
          | (go_at_call 42; refine (kt _).mono ?_; rintro e wt ⟨rfl, hwt⟩; have hwt := hwt.symm; subst hwt))
        go_wp2_with fail
        go_roundg (ps.length - (i + 1))
        case measure =>
          have : gk = ps.length - i := hgkH
          omega
        case rel => exact tailH _ (Fr.drew _ _)
    · obtain rfl : i = ps.length := by omega
      have hPe : Hidden (P ++ [41] ++ tyT ty ++ [32, 123] = T) := by
        show _ = T
        rw [(show P = _ from hPH), List.take_length]
        exact hTT
      clear hPH hTT
      by_cases h0 : ty = 0
      · subst h0
        obtain ⟨S1, hS1⟩ : ∃ S : Bs, (P : Bs) ++ ([41] : Bs) = S := ⟨_, rfl⟩
        obtain ⟨S2, hS2⟩ : ∃ S : Bs, (S1 : Bs) ++ ([32, 123] : Bs) = S := ⟨_, rfl⟩
        have lenS : S2.length ≤ 140737488355328 := by rw [← hS2, ← hS1]; simp only [List.length_append, List.length_cons, List.length_nil]; omega
        have cS1 := fun w => X.catv P [41] S1 hS1 (by have := lenS; rw [← hS2] at this; simp only [List.length_append] at this; omega) w
        have cS2 := fun w => X.catv S1 [32, 123] S2 hS2 (by have := lenS; omega) w
        have HS1 : Hidden (_ = S1) := hS1
        have HS2 : Hidden (_ = S2) := hS2
        clear hS1 hS2 lenS
        have hST : Hidden (S2 = T) := by show _ = T; rw [← (show _ = S2 from HS2), ← (show _ = S1 from HS1), ← (show _ = T from hPe)]; simp [tyT]
        clear hPe
        go_wp2_with fail
        go_ret
        refine ⟨?_, f0.same hfr⟩
        rw [← (show _ = T from hST)]
        rfl
      · have ht1 : ty = 1 ∨ ty = 2 ∨ ty = 3 := by omega
        have hne : (ty != 0) = true := by simpa using h0
        have kt := fun (w1 : World) => type_r ty ht1 w1
        have hty2 := tyT_N ht1
        have hYl : (tyN ty).length ≤ 10 := by have := Pz.tyT_ln ty; rw [hty2, List.length_append] at this; omega
        generalize tyN ty = Y at kt hty2 hYl
        have hty2H : Hidden (tyT ty = [58, 32] ++ Y) := hty2
        clear hty2 h0
        obtain ⟨S1, hS1⟩ : ∃ S : Bs, (P : Bs) ++ ([41] : Bs) = S := ⟨_, rfl⟩
        obtain ⟨S2, hS2⟩ : ∃ S : Bs, (S1 : Bs) ++ ([58, 32] : Bs) = S := ⟨_, rfl⟩
        obtain ⟨S3, hS3⟩ : ∃ S : Bs, (S2 : Bs) ++ (Y : Bs) = S := ⟨_, rfl⟩
        obtain ⟨S4, hS4⟩ : ∃ S : Bs, (S3 : Bs) ++ ([32, 123] : Bs) = S := ⟨_, rfl⟩
        have lenS : S4.length ≤ 140737488355328 := by rw [← hS4, ← hS3, ← hS2, ← hS1]; simp only [List.length_append, List.length_cons, List.length_nil]; omega
        have cS1 := fun w => X.catv P [41] S1 hS1 (by have := lenS; rw [← hS4, ← hS3, ← hS2] at this; simp only [List.length_append] at this; omega) w
        have cS2 := fun w => X.catv S1 [58, 32] S2 hS2 (by have := lenS; rw [← hS4, ← hS3] at this; simp only [List.length_append] at this; omega) w
        have cS3 := fun w => X.catv S2 Y S3 hS3 (by have := lenS; rw [← hS4] at this; simp only [List.length_append] at this; omega) w
        have cS4 := fun w => X.catv S3 [32, 123] S4 hS4 (by have := lenS; omega) w
        have HS1 : Hidden (_ = S1) := hS1
        have HS2 : Hidden (_ = S2) := hS2
        have HS3 : Hidden (_ = S3) := hS3
        have HS4 : Hidden (_ = S4) := hS4
        clear hS1 hS2 hS3 hS4 lenS
        have hST : Hidden (S4 = T) := by show _ = T; rw [← (show _ = S4 from HS4), ← (show _ = S3 from HS3), ← (show _ = S2 from HS2), ← (show _ = S1 from HS1), ← (show _ = T from hPe), (show tyT ty = _ from hty2H)]; simp
        clear hPe
        go_wp2_with fail
        go_at_call 42
        refine (kt _).mono ?_
        rintro e wt ⟨rfl, hwt⟩
        have hwt := hwt.symm
        subst hwt
        go_wp2_with fail
        go_ret
        refine ⟨?_, f0.same hfr⟩
        rw [← (show _ = T from hST)]
        rfl
theorem head_w (d : De) (pv ev bv : Value) (w : World) (hd : DeI w d pv ev bv) (he : errD rnS cnS d = 0) (hO : OkD d) (T : Bs) (hT : hdT d = T) (hl : T.length ≤ 140737488355328) :
    Calls Tryz.prog 19 #[deV d pv ev bv] w fun e w' => e = .returned (ct T) ∧ Fr (fun _ => False) w w' := by
  obtain ⟨ao1, cap1, ao2, cap2, ao3, cap3, rfl, rfl, rfl, hp, hx, hb⟩ := hd
  unfold errD at he
  obtain ⟨a1, a2⟩ := Pz.orE_0 he
  obtain ⟨a3, a4⟩ := Pz.orE_0 a2
  obtain ⟨a5, a6⟩ := Pz.orE_0 a4
  obtain ⟨a7, a8⟩ := Pz.orE_0 a6
  obtain ⟨a9, b1⟩ := Pz.orE_0 a8
  obtain ⟨b2, b3⟩ := Pz.orE_0 b1
  have hfit := Pz.ifx (c := fitsD d = true) a3 (by decide)
  have h8 : d.params.length ≤ 8 := by
    apply Classical.byContradiction
    intro hc
    rw [if_pos (by omega)] at a7
    exact absurd a7 (by decide)
  have isT : ∀ {t : Int}, isTy t = true → t = 1 ∨ t = 2 ∨ t = 3 := by
    intro t h
    simp only [isTy, Bool.or_eq_true, beq_iff_eq] at h
    omega
  obtain ⟨k, ex, name, ty, ps, e, bo⟩ := d
  obtain ⟨o1, o2, o3, o4, o5, o6⟩ := hO
  simp only at *
  unfold fitsD at hfit
  simp only at hfit
  by_cases k1 : k = 1
  · subst k1
    rw [if_pos rfl, Bool.and_eq_true, decide_eq_true_eq] at hfit
    obtain ⟨x, kx, b0, off, aok, capk, rfl, rfl, q1, q2, q3, q4, hk, c0, c1, c2, c3, c4, c5, c6⟩ := one_ex hx o5 b2 hfit.2.1
    cases ex
    · exact head_1f name ty (isT hfit.1) T w ao1 ao3 ps.length bo.len cap1 cap3 x kx b0 off cap2 aok capk q1 q2 q3 q4 hk c0 c1 c2 c3 c4 c5 c6 (by show _ = T; rw [← hT]; simp [hdT, exT, txF, txA_one]) hl
    · exact head_1t name ty (isT hfit.1) T w ao1 ao3 ps.length bo.len cap1 cap3 x kx b0 off cap2 aok capk q1 q2 q3 q4 hk c0 c1 c2 c3 c4 c5 c6 (by show _ = T; rw [← hT]; simp [hdT, exT, txF, txA_one]) hl
  rw [if_neg k1] at hfit
  by_cases k2 : k = 2
  · subst k2
    rw [if_pos rfl, Bool.and_eq_true, Bool.and_eq_true, decide_eq_true_eq] at hfit
    obtain ⟨x, kx, b0, off, aok, capk, rfl, rfl, q1, q2, q3, q4, hk, c0, c1, c2, c3, c4, c5, c6⟩ := one_ex hx o5 b2 hfit.2.1
    obtain rfl : ex = false := by simpa using hfit.1.1
    exact head_2f name ty (isT hfit.1.2) T w ao1 ao3 ps.length bo.len cap1 cap3 x kx b0 off cap2 aok capk q1 q2 q3 q4 hk c0 c1 c2 c3 c4 c5 c6 (by show _ = T; rw [← hT]; simp [hdT, exT, txF, txA_one]) hl
  rw [if_neg k2] at hfit
  by_cases k3 : k = 3
  · subst k3
    rw [if_pos rfl, Bool.and_eq_true, decide_eq_true_eq] at hfit
    have hty : ty = 0 ∨ ty = 1 ∨ ty = 2 ∨ ty = 3 := by
      have := hfit.1
      rw [Bool.or_eq_true] at this
      rcases this with h | h
      · exact Or.inl (by simpa using h)
      · have := isT h
        omega
    have hpa : ∀ p ∈ ps, rnS p.name = 0 ∧ isTy p.type = true := Pz.errP_of ps a9
    have hnm := rn_len a5
    cases ex
    · exact head_3f name (by omega) ty hty T w ao1 ao2 ao3 e.len bo.len cap1 cap2 cap3 ps hp (fun p hp => isT (hpa p hp).2) (fun p hp => by have := rn_len (hpa p hp).1; omega) h8 (by show _ = T; rw [← hT]; simp [hdT, exT])
    · exact head_3t name (by omega) ty hty T w ao1 ao2 ao3 e.len bo.len cap1 cap2 cap3 ps hp (fun p hp => isT (hpa p hp).2) (fun p hp => by have := rn_len (hpa p hp).1; omega) h8 (by show _ = T; rw [← hT]; simp [hdT, exT])
  rw [if_neg k3] at hfit
  cases hfit
end Go.Proofs.YteijjaabngkbjaaGreatDoor.V
namespace Go.Proofs.YteijjaabngkbjaaGreatDoor.In
open Go.RowKit Te Go.WideShapes Go.ChangeShapes Go.ChangeAt Go.Deep
set_option linter.unusedSimpArgs false
set_option linter.unusedVariables false
theorem cells_int : Tryz.prog.cellsOf 3 = 1 := by kernel_rfl
theorem cells_bool : Tryz.prog.cellsOf 4 = 1 := by kernel_rfl
theorem cells_str : Tryz.prog.cellsOf 9 = 1 := by kernel_rfl
theorem cells_val : Tryz.prog.cellsOf 40 = 2 := by kernel_rfl
theorem cells_u64 : Tryz.prog.cellsOf 38 = 1 := by kernel_rfl
theorem cells_ex : Tryz.prog.cellsOf 59 = 7 := by kernel_rfl
theorem cells_exs : Tryz.prog.cellsOf 48 = 1 := by kernel_rfl
theorem cells_st : Tryz.prog.cellsOf 91 = 5 := by kernel_rfl
theorem cells_sts : Tryz.prog.cellsOf 49 = 1 := by kernel_rfl
theorem cells_pa : Tryz.prog.cellsOf 89 = 2 := by kernel_rfl
theorem cells_pas : Tryz.prog.cellsOf 47 = 1 := by kernel_rfl
theorem cells_de : Tryz.prog.cellsOf 51 = 7 := by kernel_rfl
theorem cells_des : Tryz.prog.cellsOf 23 = 1 := by kernel_rfl
theorem cells_strs : Tryz.prog.cellsOf 22 = 1 := by kernel_rfl
theorem cells_mo : Tryz.prog.cellsOf 25 = 3 := by kernel_rfl
theorem Addr_plain {W : World} {a : Addr} {x : Value} (h : W.cell? (a.add 0) = some x) : a.spot = none := by
  have := World.cell?_spot h
  unfold Addr.add at this
  simpa using this
theorem wf_i64 {n : Int} (h : (Lit.int .i64 n).wf = true) : I64 n := by
  have : -9223372036854775808 ≤ n ∧ n ≤ 9223372036854775807 := by simpa [Lit.wf, IntKind.min, IntKind.max, IntKind.signed, IntKind.bits] using h
  exact this
theorem wf_u64 {n : Int} (h : (Lit.int .u64 n).wf = true) : 0 ≤ n ∧ n < 18446744073709551616 := by
  have : 0 ≤ n ∧ n ≤ 18446744073709551615 := by simpa [Lit.wf, IntKind.min, IntKind.max, IntKind.signed, IntKind.bits] using h
  omega
def bkX : Exs → Nat
  | .nil => 1
  | .cons h k r => h.mod.length + h.name.length + bkX k + bkX r
def bkS : Sts → Nat
  | .nil => 1
  | .cons h e b l r => h.name.length + bkX e + bkS b + bkS l + bkS r
variable {H : Type} {enc : TypeId × Value → H} {W : World}
abbrev bulk (x : DataW H × List MemPlace) : Nat := Rows.uptoBulk x.1
theorem bulk_pos (x : DataW H × List MemPlace) : 1 ≤ bulk x := by
  unfold bulk
  cases x.1 with
  | lit l => cases l <;> simp [Rows.uptoBulk]
  | _ => simp [Rows.uptoBulk]
theorem open_sl {t e : TypeId} {fuel : Nat} {c : Value} {x : DataW H × List MemPlace} (ht : Tryz.prog.underlying t = some (.slice e)) (h : DataW.trod enc Tryz.prog W 0 (fun _ => true) true fuel t [c] = some x) :
    c = .slice none 0 0 ∨ ∃ (a : Addr) (len cap n : Nat) (el rest : List (DataW H × List MemPlace)), fuel = n + 1 ∧ c = .slice (some a) len cap ∧ len ≤ cap ∧ cap ≤ maxLen ∧ x.1 = .slice (el.map (·.1)) (rest.map (·.1)) ∧ el.length = len ∧
      ∀ i, i < len → ∃ y cs, el[i]? = some y ∧ W.cells? 0 (a.add (i * Tryz.prog.cellsOf e)) (Tryz.prog.cellsOf e) = some cs ∧ DataW.trod enc Tryz.prog W 0 (fun _ => true) true n e cs = some y := by
  rcases DataW.trod_slice ht h with ⟨h0, _⟩ | ⟨a, len, cap, el, rest, n, hn, hcs, rfl, hb, hl, hm, hlen, hel, _, _⟩
  · simp only [List.cons.injEq, and_true] at h0
    exact Or.inl h0
  · simp only [List.cons.injEq, and_true] at hcs
    refine Or.inr ⟨a, len, cap, n, el, rest, hn, hcs, hl, hm, rfl, hlen, fun i hi => ?_⟩
    have key := hel i hi
    rw [List.getElem?_eq_getElem (by omega)] at key
    obtain ⟨cs, h1, h2⟩ := Option.bind_eq_some_iff.1 key
    exact ⟨_, cs, List.getElem?_eq_getElem (by omega), h1, h2⟩
theorem bulk_drop (el : List (DataW H × List MemPlace)) (i : Nat) (y : DataW H × List MemPlace) (h : el[i]? = some y) : Rows.uptoBulkAll ((el.drop i).map (·.1)) = bulk y + Rows.uptoBulkAll ((el.drop (i + 1)).map (·.1)) := by
  have hi : i < el.length := (List.getElem?_eq_some_iff.1 h).1
  have e : el.drop i = y :: el.drop (i + 1) := by
    rw [List.drop_eq_getElem_cons hi]
    congr 1
    rw [List.getElem?_eq_getElem hi] at h
    exact Option.some.inj h
  rw [e]
  simp only [List.map_cons, Rows.uptoBulkAll]
theorem val_in {fuel : Nat} {c0 c1 : Value} {x : DataW H × List MemPlace} (h : DataW.trod enc Tryz.prog W 0 (fun _ => true) true fuel 40 [c0, c1] = some x) : ∃ t b : Int, c0 = .int .i64 t ∧ c1 = .int .u64 b ∧ I64 t ∧ 0 ≤ b ∧ b < 18446744073709551616 := by
  obtain ⟨xs, n, rfl, rfl, hlen, hxl, hf⟩ := DataW.trod_struct Tryz.underlying40 h
  have hxl : xs.length = 2 := hxl
  match xs, hxl with
  | [x0, x1], _ =>
    have f0 : DataW.trod enc Tryz.prog W 0 (fun _ => true) true n 3 [c0] = some x0 := by
      have : DataW.trod enc Tryz.prog W 0 (fun _ => true) true n 3 (([c0, c1].drop 0).take (Tryz.prog.cellsOf 3)) = some x0 := hf 0 _ rfl
      rw [cells_int] at this
      exact this
    have f1 : DataW.trod enc Tryz.prog W 0 (fun _ => true) true n 38 [c1] = some x1 := by
      have : DataW.trod enc Tryz.prog W 0 (fun _ => true) true n 38 (([c0, c1].drop 1).take (Tryz.prog.cellsOf 38)) = some x1 := hf 1 _ rfl
      rw [cells_u64] at this
      exact this
    obtain ⟨t, e0, rfl, w0⟩ := DataW.trod_int Tryz.underlying3 f0
    obtain ⟨b, e1, rfl, w1⟩ := DataW.trod_int Tryz.underlying38 f1
    exact ⟨t, b, by simpa using e0, by simpa using e1, wf_i64 w0, wf_u64 w1⟩
theorem str_ok {s : ByteArray} (h : s.size ≤ maxLen) : OkN s.data.toList := by
  have : s.data.toList.length ≤ maxLen := by rw [Array.length_toList]; exact h
  unfold maxLen at this
  unfold OkN
  omega
def ExsIn (enc : TypeId × Value → H) (W : World) (fuel : Nat) : Prop := ∀ (c : Value) (x : DataW H × List MemPlace), DataW.trod enc Tryz.prog W 0 (fun _ => true) true fuel 48 [c] = some x →
  ∃ (ao : Option Addr) (cap : Nat) (k : Exs), c = .slice ao k.len cap ∧ ExL W ao cap k ∧ OkX k ∧ bkX k ≤ bulk x
set_option maxRecDepth 20000 in
theorem expr_in {fuel : Nat} (ih : ∀ n, n < fuel → ExsIn enc W n) {cs : List Value} {x : DataW H × List MemPlace} (h : DataW.trod enc Tryz.prog W 0 (fun _ => true) true fuel 59 cs = some x) :
    ∃ (hh : EH) (ao : Option Addr) (cap : Nat) (k : Exs), cs = exC hh (.slice ao k.len cap) ∧ ExL W ao cap k ∧ OkE hh ∧ OkX k ∧ hh.mod.length + hh.name.length + bkX k ≤ bulk x := by
  obtain ⟨xs, n, rfl, rfl, hlen, hxl, hf⟩ := DataW.trod_struct Tryz.underlying59 h
  rw [cells_ex] at hlen
  match cs, hlen with
  | [c0, c1, c2, c3, c4, c5, c6], _ =>
    have hxl : xs.length = 6 := hxl
    match xs, hxl with
    | [x0, x1, x2, x3, x4, x5], _ =>
      have f0 : DataW.trod enc Tryz.prog W 0 (fun _ => true) true n 3 [c0] = some x0 := by
        have : DataW.trod enc Tryz.prog W 0 (fun _ => true) true n 3 (([c0, c1, c2, c3, c4, c5, c6].drop 0).take (Tryz.prog.cellsOf 3)) = some x0 := hf 0 _ rfl
        rw [cells_int] at this
        exact this
      have f1 : DataW.trod enc Tryz.prog W 0 (fun _ => true) true n 3 [c1] = some x1 := by
        have : DataW.trod enc Tryz.prog W 0 (fun _ => true) true n 3 (([c0, c1, c2, c3, c4, c5, c6].drop 1).take (Tryz.prog.cellsOf 3)) = some x1 := hf 1 _ rfl
        rw [cells_int] at this
        exact this
      have f2 : DataW.trod enc Tryz.prog W 0 (fun _ => true) true n 9 [c2] = some x2 := by
        have : DataW.trod enc Tryz.prog W 0 (fun _ => true) true n 9 (([c0, c1, c2, c3, c4, c5, c6].drop 2).take (Tryz.prog.cellsOf 9)) = some x2 := hf 2 _ rfl
        rw [cells_str] at this
        exact this
      have f3 : DataW.trod enc Tryz.prog W 0 (fun _ => true) true n 9 [c3] = some x3 := by
        have : DataW.trod enc Tryz.prog W 0 (fun _ => true) true n 9 (([c0, c1, c2, c3, c4, c5, c6].drop 3).take (Tryz.prog.cellsOf 9)) = some x3 := hf 3 _ rfl
        rw [cells_str] at this
        exact this
      have f4 : DataW.trod enc Tryz.prog W 0 (fun _ => true) true n 40 [c4, c5] = some x4 := by
        have : DataW.trod enc Tryz.prog W 0 (fun _ => true) true n 40 (([c0, c1, c2, c3, c4, c5, c6].drop 4).take (Tryz.prog.cellsOf 40)) = some x4 := hf 4 _ rfl
        rw [cells_val] at this
        exact this
      have f5 : DataW.trod enc Tryz.prog W 0 (fun _ => true) true n 48 [c6] = some x5 := by
        have : DataW.trod enc Tryz.prog W 0 (fun _ => true) true n 48 (([c0, c1, c2, c3, c4, c5, c6].drop 6).take (Tryz.prog.cellsOf 48)) = some x5 := hf 5 _ rfl
        rw [cells_exs] at this
        exact this
      obtain ⟨z0, e0, rfl, w0⟩ := DataW.trod_int Tryz.underlying3 f0
      obtain rfl : c0 = .int .i64 z0 := by simpa using e0
      obtain ⟨z1, e1, rfl, w1⟩ := DataW.trod_int Tryz.underlying3 f1
      obtain rfl : c1 = .int .i64 z1 := by simpa using e1
      obtain ⟨z2, e2, rfl, w2⟩ := DataW.trod_string Tryz.underlying9 f2
      obtain rfl : c2 = .string z2 := by simpa using e2
      have y2 : OkN z2.data.toList := str_ok w2
      obtain ⟨z3, e3, rfl, w3⟩ := DataW.trod_string Tryz.underlying9 f3
      obtain rfl : c3 = .string z3 := by simpa using e3
      have y3 : OkN z3.data.toList := str_ok w3
      obtain ⟨t4, b4, rfl, rfl, v41, v42, v43⟩ := val_in f4
      obtain ⟨ao, cap, k, rfl, hL, hO, hB⟩ := ih n (by omega) _ _ f5
      refine ⟨⟨z0, z1, z2.data.toList, z3.data.toList, t4, b4⟩, ao, cap, k, by simp [exC, ci, ct], hL, ⟨wf_i64 w0, wf_i64 w1, v41, v42, v43, y2, y3⟩, hO, ?_⟩
      simp only [bulk, Rows.uptoBulk, Rows.uptoBulkAll, List.map_cons, List.map_nil] at hB ⊢
      omega
theorem exs_step (fuel : Nat) (ih : ∀ n, n < fuel → ExsIn enc W n) : ExsIn enc W fuel := by
  intro c x h
  rcases open_sl Tryz.underlying48 h with rfl | ⟨a, len, cap, n, el, rest, hn, rfl, hl, hm, hx, hlen, hel⟩
  · refine ⟨none, 0, .nil, rfl, ⟨by simp [Exs.len], by simp [maxLen], Or.inl rfl⟩, trivial, ?_⟩
    have : 1 ≤ bulk x := bulk_pos _
    simpa [bkX] using this
  · rw [cells_ex] at hel
    have hpl : 0 < len → a.spot = none := by
      intro h0
      obtain ⟨y, cs, _, hc, ht⟩ := hel 0 h0
      obtain ⟨hh, ao, cap', k, rfl, _⟩ := expr_in (fun m hm => ih m (by omega)) ht
      obtain ⟨_, _, hcc⟩ := World.cells?_some hc
      have := hcc 0 (by omega)
      rw [show a.add (0 * 7) = a by simp [Addr.add]] at this
      exact Addr_plain (this.trans rfl)
    have key : ∀ (m i : Nat), i + m = len → ∃ r : Exs, r.len = m ∧ ExA W r a.block (a.off + i * 7) ∧ OkX r ∧ bkX r ≤ Rows.uptoBulkAll ((el.drop i).map (·.1)) + 1 := by
      intro m
      induction m with
      | zero => intro i _; exact ⟨.nil, rfl, trivial, trivial, by simp [bkX]⟩
      | succ m ihm =>
        intro i hi
        obtain ⟨r, r1, r2, r3, r4⟩ := ihm (i + 1) (by omega)
        obtain ⟨y, cs, hy, hc, ht⟩ := hel i (by omega)
        obtain ⟨hh, ao, cap', k, rfl, k1, k2, k3, k4⟩ := expr_in (fun m hm => ih m (by omega)) ht
        obtain ⟨_, _, hcc⟩ := World.cells?_some hc
        have hsp := hpl (by omega)
        refine ⟨.cons hh k r, by simp [Exs.len, r1], ⟨⟨ao, cap', fun j u hu => ?_, k1.1, k1.2.1, k1.2.2⟩, ?_⟩, ⟨k2, k3, r3⟩, ?_⟩
        · have hj : j < 7 := (List.getElem?_eq_some_iff.1 hu).1
          have := hcc j hj
          rw [hu] at this
          obtain ⟨b, off, spot⟩ := a
          simp only at hsp
          subst hsp
          rw [Addr.add_lit, Addr.add_lit] at this
          exact this
        · rw [show a.off + i * 7 + 7 = a.off + (i + 1) * 7 by omega]
          exact r2
        · rw [bulk_drop el i y hy]
          simp only [bkX]
          omega
    obtain ⟨r, r1, r2, r3, r4⟩ := key len 0 (by omega)
    refine ⟨some a, cap, r, by rw [r1], ⟨by rw [r1]; exact hl, hm, ?_⟩, r3, ?_⟩
    · by_cases h0 : len = 0
      · left; rw [r1, h0]
      · right
        have hsp := hpl (by omega)
        obtain ⟨b, off, spot⟩ := a
        simp only at hsp
        subst hsp
        exact ⟨b, off, rfl, by simpa using r2⟩
    · simp only [bulk, hx, Rows.uptoBulk]
      simp only [List.drop_zero] at r4
      omega
theorem exs_in (fuel : Nat) : ExsIn enc W fuel := by
  induction fuel using Nat.strongRecOn with
  | _ fuel ih => exact exs_step fuel ih
def StsIn (enc : TypeId × Value → H) (W : World) (fuel : Nat) : Prop := ∀ (c : Value) (x : DataW H × List MemPlace), DataW.trod enc Tryz.prog W 0 (fun _ => true) true fuel 49 [c] = some x →
  ∃ (ao : Option Addr) (cap : Nat) (k : Sts), c = .slice ao k.len cap ∧ StL W ao cap k ∧ OkS k ∧ bkS k ≤ bulk x
set_option maxRecDepth 20000 in
theorem stmt_in {fuel : Nat} (ih : ∀ n, n < fuel → StsIn enc W n) {cs : List Value} {x : DataW H × List MemPlace} (h : DataW.trod enc Tryz.prog W 0 (fun _ => true) true fuel 91 cs = some x) :
    ∃ (hh : SH) (ao1 : Option Addr) (cap1 : Nat) (e : Exs) (ao2 : Option Addr) (cap2 : Nat) (b : Sts) (ao3 : Option Addr) (cap3 : Nat) (l : Sts), cs = stC hh (.slice ao1 e.len cap1) (.slice ao2 b.len cap2) (.slice ao3 l.len cap3) ∧ ExL W ao1 cap1 e ∧ StL W ao2 cap2 b ∧ StL W ao3 cap3 l ∧
      I64 hh.kind ∧ OkN hh.name ∧ OkX e ∧ OkS b ∧ OkS l ∧ hh.name.length + bkX e + bkS b + bkS l ≤ bulk x := by
  obtain ⟨xs, n, rfl, rfl, hlen, hxl, hf⟩ := DataW.trod_struct Tryz.underlying91 h
  rw [cells_st] at hlen
  match cs, hlen with
  | [c0, c1, c2, c3, c4], _ =>
    have hxl : xs.length = 5 := hxl
    match xs, hxl with
    | [x0, x1, x2, x3, x4], _ =>
      have f0 : DataW.trod enc Tryz.prog W 0 (fun _ => true) true n 3 [c0] = some x0 := by
        have : DataW.trod enc Tryz.prog W 0 (fun _ => true) true n 3 (([c0, c1, c2, c3, c4].drop 0).take (Tryz.prog.cellsOf 3)) = some x0 := hf 0 _ rfl
        rw [cells_int] at this
        exact this
      have f1 : DataW.trod enc Tryz.prog W 0 (fun _ => true) true n 9 [c1] = some x1 := by
        have : DataW.trod enc Tryz.prog W 0 (fun _ => true) true n 9 (([c0, c1, c2, c3, c4].drop 1).take (Tryz.prog.cellsOf 9)) = some x1 := hf 1 _ rfl
        rw [cells_str] at this
        exact this
      have f2 : DataW.trod enc Tryz.prog W 0 (fun _ => true) true n 48 [c2] = some x2 := by
        have : DataW.trod enc Tryz.prog W 0 (fun _ => true) true n 48 (([c0, c1, c2, c3, c4].drop 2).take (Tryz.prog.cellsOf 48)) = some x2 := hf 2 _ rfl
        rw [cells_exs] at this
        exact this
      have f3 : DataW.trod enc Tryz.prog W 0 (fun _ => true) true n 49 [c3] = some x3 := by
        have : DataW.trod enc Tryz.prog W 0 (fun _ => true) true n 49 (([c0, c1, c2, c3, c4].drop 3).take (Tryz.prog.cellsOf 49)) = some x3 := hf 3 _ rfl
        rw [cells_sts] at this
        exact this
      have f4 : DataW.trod enc Tryz.prog W 0 (fun _ => true) true n 49 [c4] = some x4 := by
        have : DataW.trod enc Tryz.prog W 0 (fun _ => true) true n 49 (([c0, c1, c2, c3, c4].drop 4).take (Tryz.prog.cellsOf 49)) = some x4 := hf 4 _ rfl
        rw [cells_sts] at this
        exact this
      obtain ⟨z0, e0, rfl, w0⟩ := DataW.trod_int Tryz.underlying3 f0
      obtain rfl : c0 = .int .i64 z0 := by simpa using e0
      obtain ⟨z1, e1, rfl, w1⟩ := DataW.trod_string Tryz.underlying9 f1
      obtain rfl : c1 = .string z1 := by simpa using e1
      have y1 : OkN z1.data.toList := str_ok w1
      obtain ⟨ao1, cap1, e, rfl, a1, a2, a3⟩ := exs_in n _ _ f2
      obtain ⟨ao2, cap2, b, rfl, b1, b2, b3⟩ := ih n (by omega) _ _ f3
      obtain ⟨ao3, cap3, l, rfl, l1, l2, l3⟩ := ih n (by omega) _ _ f4
      refine ⟨⟨z0, z1.data.toList⟩, ao1, cap1, e, ao2, cap2, b, ao3, cap3, l, by simp [stC, ci, ct], a1, b1, l1, wf_i64 w0, y1, a2, b2, l2, ?_⟩
      simp only [bulk, Rows.uptoBulk, Rows.uptoBulkAll, List.map_cons, List.map_nil] at a3 b3 l3 ⊢
      omega
theorem sts_step (fuel : Nat) (ih : ∀ n, n < fuel → StsIn enc W n) : StsIn enc W fuel := by
  intro c x h
  rcases open_sl Tryz.underlying49 h with rfl | ⟨a, len, cap, n, el, rest, hn, rfl, hl, hm, hx, hlen, hel⟩
  · refine ⟨none, 0, .nil, rfl, ⟨by simp [Sts.len], by simp [maxLen], Or.inl rfl⟩, trivial, ?_⟩
    have : 1 ≤ bulk x := bulk_pos _
    simpa [bkS] using this
  · rw [cells_st] at hel
    have hpl : 0 < len → a.spot = none := by
      intro h0
      obtain ⟨y, cs, _, hc, ht⟩ := hel 0 h0
      obtain ⟨hh, ao1, cap1, e, ao2, cap2, b, ao3, cap3, l, rfl, _⟩ := stmt_in (fun m hm => ih m (by omega)) ht
      obtain ⟨_, _, hcc⟩ := World.cells?_some hc
      have := hcc 0 (by omega)
      rw [show a.add (0 * 5) = a by simp [Addr.add]] at this
      exact Addr_plain (this.trans rfl)
    have key : ∀ (m i : Nat), i + m = len → ∃ r : Sts, r.len = m ∧ StA W r a.block (a.off + i * 5) ∧ OkS r ∧ bkS r ≤ Rows.uptoBulkAll ((el.drop i).map (·.1)) + 1 := by
      intro m
      induction m with
      | zero => intro i _; exact ⟨.nil, rfl, trivial, trivial, by simp [bkS]⟩
      | succ m ihm =>
        intro i hi
        obtain ⟨r, r1, r2, r3, r4⟩ := ihm (i + 1) (by omega)
        obtain ⟨y, cs, hy, hc, ht⟩ := hel i (by omega)
        obtain ⟨hh, ao1, cap1, e, ao2, cap2, b, ao3, cap3, l, rfl, k1, k2, k3, k4, k5, k6, k7, k8, k9⟩ := stmt_in (fun m hm => ih m (by omega)) ht
        obtain ⟨_, _, hcc⟩ := World.cells?_some hc
        have hsp := hpl (by omega)
        refine ⟨.cons hh e b l r, by simp [Sts.len, r1], ⟨⟨ao1, cap1, ao2, cap2, ao3, cap3, fun j u hu => ?_, k1, k2, k3⟩, ?_⟩, ⟨k4, k5, k6, k7, k8, r3⟩, ?_⟩
        · have hj : j < 5 := (List.getElem?_eq_some_iff.1 hu).1
          have := hcc j hj
          rw [hu] at this
          obtain ⟨b, off, spot⟩ := a
          simp only at hsp
          subst hsp
          rw [Addr.add_lit, Addr.add_lit] at this
          exact this
        · rw [show a.off + i * 5 + 5 = a.off + (i + 1) * 5 by omega]
          exact r2
        · rw [bulk_drop el i y hy]
          simp only [bkS]
          omega
    obtain ⟨r, r1, r2, r3, r4⟩ := key len 0 (by omega)
    refine ⟨some a, cap, r, by rw [r1], ⟨by rw [r1]; exact hl, hm, ?_⟩, r3, ?_⟩
    · by_cases h0 : len = 0
      · left; rw [r1, h0]
      · right
        have hsp := hpl (by omega)
        obtain ⟨b, off, spot⟩ := a
        simp only at hsp
        subst hsp
        exact ⟨b, off, rfl, by simpa using r2⟩
    · simp only [bulk, hx, Rows.uptoBulk]
      simp only [List.drop_zero] at r4
      omega
theorem sts_in (fuel : Nat) : StsIn enc W fuel := by
  induction fuel using Nat.strongRecOn with
  | _ fuel ih => exact sts_step fuel ih
set_option maxRecDepth 20000 in
theorem pa_in {fuel : Nat} {cs : List Value} {x : DataW H × List MemPlace} (h : DataW.trod enc Tryz.prog W 0 (fun _ => true) true fuel 89 cs = some x) : ∃ pp : Pa, cs = paC pp ∧ OkN pp.name ∧ I64 pp.type ∧ pp.name.length + 1 ≤ bulk x := by
  obtain ⟨xs, n, rfl, rfl, hlen, hxl, hf⟩ := DataW.trod_struct Tryz.underlying89 h
  rw [cells_pa] at hlen
  match cs, hlen with
  | [c0, c1], _ =>
    have hxl : xs.length = 2 := hxl
    match xs, hxl with
    | [x0, x1], _ =>
      have f0 : DataW.trod enc Tryz.prog W 0 (fun _ => true) true n 9 [c0] = some x0 := by
        have : DataW.trod enc Tryz.prog W 0 (fun _ => true) true n 9 (([c0, c1].drop 0).take (Tryz.prog.cellsOf 9)) = some x0 := hf 0 _ rfl
        rw [cells_str] at this
        exact this
      have f1 : DataW.trod enc Tryz.prog W 0 (fun _ => true) true n 3 [c1] = some x1 := by
        have : DataW.trod enc Tryz.prog W 0 (fun _ => true) true n 3 (([c0, c1].drop 1).take (Tryz.prog.cellsOf 3)) = some x1 := hf 1 _ rfl
        rw [cells_int] at this
        exact this
      obtain ⟨z0, e0, rfl, w0⟩ := DataW.trod_string Tryz.underlying9 f0
      obtain rfl : c0 = .string z0 := by simpa using e0
      have y0 : OkN z0.data.toList := str_ok w0
      obtain ⟨z1, e1, rfl, w1⟩ := DataW.trod_int Tryz.underlying3 f1
      obtain rfl : c1 = .int .i64 z1 := by simpa using e1
      refine ⟨⟨z0.data.toList, z1⟩, by simp [paC, ci, ct], y0, wf_i64 w1, ?_⟩
      simp only [bulk, Rows.uptoBulk, Rows.uptoBulkAll, List.map_cons, List.map_nil]
      omega
theorem pas_in {fuel : Nat} {c : Value} {x : DataW H × List MemPlace} (h : DataW.trod enc Tryz.prog W 0 (fun _ => true) true fuel 47 [c] = some x) :
    ∃ (ao : Option Addr) (cap : Nat) (l : List Pa), c = .slice ao l.length cap ∧ PaL W ao cap l ∧ (∀ p ∈ l, OkN p.name ∧ I64 p.type) ∧ (l.map (fun p => p.name.length + 1)).sum ≤ bulk x := by
  rcases open_sl Tryz.underlying47 h with rfl | ⟨a, len, cap, n, el, rest, hn, rfl, hl, hm, hx, hlen, hel⟩
  · exact ⟨none, 0, [], rfl, ⟨by simp, by simp [maxLen], Or.inl rfl⟩, by simp, by simp⟩
  · rw [cells_pa] at hel
    have hpl : 0 < len → a.spot = none := by
      intro h0
      obtain ⟨y, cs, _, hc, ht⟩ := hel 0 h0
      obtain ⟨pp, rfl, _⟩ := pa_in ht
      obtain ⟨_, _, hcc⟩ := World.cells?_some hc
      have := hcc 0 (by omega)
      rw [show a.add (0 * 2) = a by simp [Addr.add]] at this
      exact Addr_plain (this.trans rfl)
    have key : ∀ (m i : Nat), i + m = len → ∃ r : List Pa, r.length = m ∧ (∀ (j : Nat) (p : Pa), r[j]? = some p → ∀ (j2 : Nat) (u : Value), (paC p)[j2]? = some u → W.cell? ⟨a.block, a.off + (i + j) * 2 + j2, none⟩ = some u) ∧ (∀ p ∈ r, OkN p.name ∧ I64 p.type) ∧ (r.map (fun p => p.name.length + 1)).sum ≤ Rows.uptoBulkAll ((el.drop i).map (·.1)) := by
      intro m
      induction m with
      | zero => intro i _; exact ⟨[], rfl, by simp, by simp, by simp⟩
      | succ m ihm =>
        intro i hi
        obtain ⟨r, r1, r2, r3, r4⟩ := ihm (i + 1) (by omega)
        obtain ⟨y, cs, hy, hc, ht⟩ := hel i (by omega)
        obtain ⟨pp, rfl, q1, q2, q3⟩ := pa_in ht
        obtain ⟨_, _, hcc⟩ := World.cells?_some hc
        have hsp := hpl (by omega)
        refine ⟨pp :: r, by simp [r1], fun j p hj => ?_, ?_, ?_⟩
        · cases j with
          | zero =>
            obtain rfl : pp = p := by simpa using hj
            intro j u hu
            have hj : j < 2 := (List.getElem?_eq_some_iff.1 hu).1
            have := hcc j hj
            rw [hu] at this
            obtain ⟨b, off, spot⟩ := a
            simp only at hsp
            subst hsp
            rw [Addr.add_lit, Addr.add_lit] at this
            rw [show i + 0 = i by omega]
            exact this
          | succ j =>
            have := r2 j p (by simpa using hj)
            rw [show i + 1 + j = i + (j + 1) by omega] at this
            exact this
        · intro p hp
          rcases List.mem_cons.1 hp with rfl | hp
          · exact ⟨q1, q2⟩
          · exact r3 p hp
        · rw [bulk_drop el i y hy]
          simp only [List.map_cons, List.sum_cons]
          omega
    obtain ⟨r, r1, r2, r3, r4⟩ := key len 0 (by omega)
    refine ⟨some a, cap, r, by rw [r1], ⟨by rw [r1]; exact hl, hm, ?_⟩, r3, ?_⟩
    · by_cases h0 : len = 0
      · left; exact List.eq_nil_of_length_eq_zero (by rw [r1, h0])
      · right
        have hsp := hpl (by omega)
        obtain ⟨b, off, spot⟩ := a
        simp only at hsp
        subst hsp
        refine ⟨b, off, rfl, fun i p hp => ?_⟩
        have := r2 i p hp
        simpa using this
    · simp only [bulk, hx, Rows.uptoBulk]
      simp only [List.drop_zero] at r4
      omega
theorem str_in {fuel : Nat} {cs : List Value} {x : DataW H × List MemPlace} (h : DataW.trod enc Tryz.prog W 0 (fun _ => true) true fuel 9 cs = some x) : ∃ pp : Bs, cs = [ct pp] ∧ OkN pp ∧ pp.length + 1 ≤ bulk x := by
  obtain ⟨z0, rfl, rfl, w0⟩ := DataW.trod_string Tryz.underlying9 h
  exact ⟨z0.data.toList, by simp [ct], str_ok w0, by simp [bulk, Rows.uptoBulk]⟩
theorem strs_in {fuel : Nat} {c : Value} {x : DataW H × List MemPlace} (h : DataW.trod enc Tryz.prog W 0 (fun _ => true) true fuel 22 [c] = some x) :
    ∃ (ao : Option Addr) (cap : Nat) (l : List Bs), c = .slice ao l.length cap ∧ SvL W ao cap l ∧ (∀ p ∈ l, OkN p) ∧ (l.map (fun p => p.length + 1)).sum ≤ bulk x := by
  rcases open_sl Tryz.underlying22 h with rfl | ⟨a, len, cap, n, el, rest, hn, rfl, hl, hm, hx, hlen, hel⟩
  · exact ⟨none, 0, [], rfl, ⟨by simp, by simp [maxLen], Or.inl rfl⟩, by simp, by simp⟩
  · rw [cells_str] at hel
    have hpl : 0 < len → a.spot = none := by
      intro h0
      obtain ⟨y, cs, _, hc, ht⟩ := hel 0 h0
      obtain ⟨pp, rfl, _⟩ := str_in ht
      obtain ⟨_, _, hcc⟩ := World.cells?_some hc
      have := hcc 0 (by omega)
      rw [show a.add (0 * 1) = a by simp [Addr.add]] at this
      exact Addr_plain (this.trans rfl)
    have key : ∀ (m i : Nat), i + m = len → ∃ r : List Bs, r.length = m ∧ (∀ (j : Nat) (p : Bs), r[j]? = some p → ∀ (j2 : Nat) (u : Value), [ct p][j2]? = some u → W.cell? ⟨a.block, a.off + (i + j) * 1 + j2, none⟩ = some u) ∧ (∀ p ∈ r, OkN p) ∧ (r.map (fun p => p.length + 1)).sum ≤ Rows.uptoBulkAll ((el.drop i).map (·.1)) := by
      intro m
      induction m with
      | zero => intro i _; exact ⟨[], rfl, by simp, by simp, by simp⟩
      | succ m ihm =>
        intro i hi
        obtain ⟨r, r1, r2, r3, r4⟩ := ihm (i + 1) (by omega)
        obtain ⟨y, cs, hy, hc, ht⟩ := hel i (by omega)
        obtain ⟨pp, rfl, q1, q3⟩ := str_in ht
        obtain ⟨_, _, hcc⟩ := World.cells?_some hc
        have hsp := hpl (by omega)
        refine ⟨pp :: r, by simp [r1], fun j p hj => ?_, ?_, ?_⟩
        · cases j with
          | zero =>
            obtain rfl : pp = p := by simpa using hj
            intro j u hu
            have hj : j < 1 := (List.getElem?_eq_some_iff.1 hu).1
            have := hcc j hj
            rw [hu] at this
            obtain ⟨b, off, spot⟩ := a
            simp only at hsp
            subst hsp
            rw [Addr.add_lit, Addr.add_lit] at this
            rw [show i + 0 = i by omega]
            exact this
          | succ j =>
            have := r2 j p (by simpa using hj)
            rw [show i + 1 + j = i + (j + 1) by omega] at this
            exact this
        · intro p hp
          rcases List.mem_cons.1 hp with rfl | hp
          · exact q1
          · exact r3 p hp
        · rw [bulk_drop el i y hy]
          simp only [List.map_cons, List.sum_cons]
          omega
    obtain ⟨r, r1, r2, r3, r4⟩ := key len 0 (by omega)
    refine ⟨some a, cap, r, by rw [r1], ⟨by rw [r1]; exact hl, hm, ?_⟩, r3, ?_⟩
    · by_cases h0 : len = 0
      · left; exact List.eq_nil_of_length_eq_zero (by rw [r1, h0])
      · right
        have hsp := hpl (by omega)
        obtain ⟨b, off, spot⟩ := a
        simp only at hsp
        subst hsp
        refine ⟨b, off, rfl, fun i p hp => ?_⟩
        have := r2 i p hp
        have := this 0 _ rfl
        simpa using this
    · simp only [bulk, hx, Rows.uptoBulk]
      simp only [List.drop_zero] at r4
      omega
set_option maxRecDepth 20000 in
theorem de_in {fuel : Nat} {cs : List Value} {x : DataW H × List MemPlace} (h : DataW.trod enc Tryz.prog W 0 (fun _ => true) true fuel 51 cs = some x) : ∃ (pp : De) (pv ev bv : Value), cs = deC pp pv ev bv ∧ DeI W pp pv ev bv ∧ OkD pp ∧ pp.name.length + (pp.params.map fun p => p.name.length + 1).sum + bkX pp.e + bkS pp.body + 1 ≤ bulk x := by
  obtain ⟨xs, n, rfl, rfl, hlen, hxl, hf⟩ := DataW.trod_struct Tryz.underlying51 h
  rw [cells_de] at hlen
  match cs, hlen with
  | [c0, c1, c2, c3, c4, c5, c6], _ =>
    have hxl : xs.length = 7 := hxl
    match xs, hxl with
    | [x0, x1, x2, x3, x4, x5, x6], _ =>
      have f0 : DataW.trod enc Tryz.prog W 0 (fun _ => true) true n 3 [c0] = some x0 := by
        have : DataW.trod enc Tryz.prog W 0 (fun _ => true) true n 3 (([c0, c1, c2, c3, c4, c5, c6].drop 0).take (Tryz.prog.cellsOf 3)) = some x0 := hf 0 _ rfl
        rw [cells_int] at this
        exact this
      have f1 : DataW.trod enc Tryz.prog W 0 (fun _ => true) true n 4 [c1] = some x1 := by
        have : DataW.trod enc Tryz.prog W 0 (fun _ => true) true n 4 (([c0, c1, c2, c3, c4, c5, c6].drop 1).take (Tryz.prog.cellsOf 4)) = some x1 := hf 1 _ rfl
        rw [cells_bool] at this
        exact this
      have f2 : DataW.trod enc Tryz.prog W 0 (fun _ => true) true n 9 [c2] = some x2 := by
        have : DataW.trod enc Tryz.prog W 0 (fun _ => true) true n 9 (([c0, c1, c2, c3, c4, c5, c6].drop 2).take (Tryz.prog.cellsOf 9)) = some x2 := hf 2 _ rfl
        rw [cells_str] at this
        exact this
      have f3 : DataW.trod enc Tryz.prog W 0 (fun _ => true) true n 3 [c3] = some x3 := by
        have : DataW.trod enc Tryz.prog W 0 (fun _ => true) true n 3 (([c0, c1, c2, c3, c4, c5, c6].drop 3).take (Tryz.prog.cellsOf 3)) = some x3 := hf 3 _ rfl
        rw [cells_int] at this
        exact this
      have f4 : DataW.trod enc Tryz.prog W 0 (fun _ => true) true n 47 [c4] = some x4 := by
        have : DataW.trod enc Tryz.prog W 0 (fun _ => true) true n 47 (([c0, c1, c2, c3, c4, c5, c6].drop 4).take (Tryz.prog.cellsOf 47)) = some x4 := hf 4 _ rfl
        rw [cells_pas] at this
        exact this
      have f5 : DataW.trod enc Tryz.prog W 0 (fun _ => true) true n 48 [c5] = some x5 := by
        have : DataW.trod enc Tryz.prog W 0 (fun _ => true) true n 48 (([c0, c1, c2, c3, c4, c5, c6].drop 5).take (Tryz.prog.cellsOf 48)) = some x5 := hf 5 _ rfl
        rw [cells_exs] at this
        exact this
      have f6 : DataW.trod enc Tryz.prog W 0 (fun _ => true) true n 49 [c6] = some x6 := by
        have : DataW.trod enc Tryz.prog W 0 (fun _ => true) true n 49 (([c0, c1, c2, c3, c4, c5, c6].drop 6).take (Tryz.prog.cellsOf 49)) = some x6 := hf 6 _ rfl
        rw [cells_sts] at this
        exact this
      obtain ⟨z0, e0, rfl, w0⟩ := DataW.trod_int Tryz.underlying3 f0
      obtain rfl : c0 = .int .i64 z0 := by simpa using e0
      obtain ⟨z1, e1, rfl⟩ := DataW.trod_bool Tryz.underlying4 f1
      obtain rfl : c1 = .bool z1 := by simpa using e1
      obtain ⟨z2, e2, rfl, w2⟩ := DataW.trod_string Tryz.underlying9 f2
      obtain rfl : c2 = .string z2 := by simpa using e2
      have y2 : OkN z2.data.toList := str_ok w2
      obtain ⟨z3, e3, rfl, w3⟩ := DataW.trod_int Tryz.underlying3 f3
      obtain rfl : c3 = .int .i64 z3 := by simpa using e3
      obtain ⟨ao1, cap1, l, rfl, a1, a2, a3⟩ := pas_in f4
      obtain ⟨ao2, cap2, e, rfl, b1, b2, b3⟩ := exs_in n _ _ f5
      obtain ⟨ao3, cap3, b, rfl, d1, d2, d3⟩ := sts_in n _ _ f6
      refine ⟨⟨z0, z1, z2.data.toList, z3, l, e, b⟩, .slice ao1 l.length cap1, .slice ao2 e.len cap2, .slice ao3 b.len cap3, by simp [deC, ci, ct], ⟨ao1, cap1, ao2, cap2, ao3, cap3, rfl, rfl, rfl, a1, b1, d1⟩, ⟨wf_i64 w0, wf_i64 w3, y2, a2, b2, d2⟩, ?_⟩
      simp only [bulk, Rows.uptoBulk, Rows.uptoBulkAll, List.map_cons, List.map_nil] at a3 b3 d3 ⊢
      omega
def bkD (d : De) : Nat := d.name.length + (d.params.map fun p => p.name.length + 1).sum + bkX d.e + bkS d.body + 1
theorem des_in {fuel : Nat} {c : Value} {x : DataW H × List MemPlace} (h : DataW.trod enc Tryz.prog W 0 (fun _ => true) true fuel 23 [c] = some x) :
    ∃ (ao : Option Addr) (cap : Nat) (l : List De), c = .slice ao l.length cap ∧ DeL W ao cap l ∧ (∀ p ∈ l, OkD p) ∧ (l.map bkD).sum ≤ bulk x := by
  rcases open_sl Tryz.underlying23 h with rfl | ⟨a, len, cap, n, el, rest, hn, rfl, hl, hm, hx, hlen, hel⟩
  · exact ⟨none, 0, [], rfl, ⟨by simp, by simp [maxLen], Or.inl rfl⟩, by simp, by simp⟩
  · rw [cells_de] at hel
    have hpl : 0 < len → a.spot = none := by
      intro h0
      obtain ⟨y, cs, _, hc, ht⟩ := hel 0 h0
      obtain ⟨pp, pv, ev, bv, rfl, _⟩ := de_in ht
      obtain ⟨_, _, hcc⟩ := World.cells?_some hc
      have := hcc 0 (by omega)
      rw [show a.add (0 * 7) = a by simp [Addr.add]] at this
      exact Addr_plain (this.trans rfl)
    have key : ∀ (m i : Nat), i + m = len → ∃ r : List De, r.length = m ∧ (∀ (j : Nat) (p : De), r[j]? = some p → ∃ pv ev bv, DeI W p pv ev bv ∧ ∀ (j2 : Nat) (u : Value), (deC p pv ev bv)[j2]? = some u → W.cell? ⟨a.block, a.off + (i + j) * 7 + j2, none⟩ = some u) ∧ (∀ p ∈ r, OkD p) ∧ (r.map bkD).sum ≤ Rows.uptoBulkAll ((el.drop i).map (·.1)) := by
      intro m
      induction m with
      | zero => intro i _; exact ⟨[], rfl, by simp, by simp, by simp⟩
      | succ m ihm =>
        intro i hi
        obtain ⟨r, r1, r2, r3, r4⟩ := ihm (i + 1) (by omega)
        obtain ⟨y, cs, hy, hc, ht⟩ := hel i (by omega)
        obtain ⟨pp, pv, ev, bv, rfl, q0, q1, q3⟩ := de_in ht
        obtain ⟨_, _, hcc⟩ := World.cells?_some hc
        have hsp := hpl (by omega)
        refine ⟨pp :: r, by simp [r1], fun j p hj => ?_, ?_, ?_⟩
        · cases j with
          | zero =>
            obtain rfl : pp = p := by simpa using hj
            refine ⟨pv, ev, bv, q0, fun j u hu => ?_⟩
            have hj : j < 7 := (List.getElem?_eq_some_iff.1 hu).1
            have := hcc j hj
            rw [hu] at this
            obtain ⟨b, off, spot⟩ := a
            simp only at hsp
            subst hsp
            rw [Addr.add_lit, Addr.add_lit] at this
            rw [show i + 0 = i by omega]
            exact this
          | succ j =>
            have := r2 j p (by simpa using hj)
            rw [show i + 1 + j = i + (j + 1) by omega] at this
            exact this
        · intro p hp
          rcases List.mem_cons.1 hp with rfl | hp
          · exact q1
          · exact r3 p hp
        · rw [bulk_drop el i y hy]
          simp only [List.map_cons, List.sum_cons]
          unfold bkD at *
          omega
    obtain ⟨r, r1, r2, r3, r4⟩ := key len 0 (by omega)
    refine ⟨some a, cap, r, by rw [r1], ⟨by rw [r1]; exact hl, hm, ?_⟩, r3, ?_⟩
    · by_cases h0 : len = 0
      · left; exact List.eq_nil_of_length_eq_zero (by rw [r1, h0])
      · right
        have hsp := hpl (by omega)
        obtain ⟨b, off, spot⟩ := a
        simp only at hsp
        subst hsp
        refine ⟨b, off, rfl, fun i p hp => ?_⟩
        have := r2 i p hp
        simpa using this
    · simp only [bulk, hx, Rows.uptoBulk]
      simp only [List.drop_zero] at r4
      omega
set_option maxRecDepth 20000 in
theorem mo_in {fuel : Nat} {cs : List Value} {x : DataW H × List MemPlace} (h : DataW.trod enc Tryz.prog W 0 (fun _ => true) true fuel 25 cs = some x) : ∃ (m : Mo), MoI W m (.agg cs.toArray) ∧ OkM m ∧ m.name.length + (m.imports.map fun p => p.length + 1).sum + (m.decls.map bkD).sum + 1 ≤ bulk x := by
  obtain ⟨xs, n, rfl, rfl, hlen, hxl, hf⟩ := DataW.trod_struct Tryz.underlying25 h
  rw [cells_mo] at hlen
  match cs, hlen with
  | [c0, c1, c2], _ =>
    have hxl : xs.length = 3 := hxl
    match xs, hxl with
    | [x0, x1, x2], _ =>
      have f0 : DataW.trod enc Tryz.prog W 0 (fun _ => true) true n 9 [c0] = some x0 := by
        have : DataW.trod enc Tryz.prog W 0 (fun _ => true) true n 9 (([c0, c1, c2].drop 0).take (Tryz.prog.cellsOf 9)) = some x0 := hf 0 _ rfl
        rw [cells_str] at this
        exact this
      have f1 : DataW.trod enc Tryz.prog W 0 (fun _ => true) true n 22 [c1] = some x1 := by
        have : DataW.trod enc Tryz.prog W 0 (fun _ => true) true n 22 (([c0, c1, c2].drop 1).take (Tryz.prog.cellsOf 22)) = some x1 := hf 1 _ rfl
        rw [cells_strs] at this
        exact this
      have f2 : DataW.trod enc Tryz.prog W 0 (fun _ => true) true n 23 [c2] = some x2 := by
        have : DataW.trod enc Tryz.prog W 0 (fun _ => true) true n 23 (([c0, c1, c2].drop 2).take (Tryz.prog.cellsOf 23)) = some x2 := hf 2 _ rfl
        rw [cells_des] at this
        exact this
      obtain ⟨z0, e0, rfl, w0⟩ := DataW.trod_string Tryz.underlying9 f0
      obtain rfl : c0 = .string z0 := by simpa using e0
      have y0 : OkN z0.data.toList := str_ok w0
      obtain ⟨ao1, cap1, l, rfl, a1, a2, a3⟩ := strs_in f1
      obtain ⟨ao2, cap2, d, rfl, b1, b2, b3⟩ := des_in f2
      refine ⟨⟨z0.data.toList, l, d⟩, ⟨ao1, cap1, ao2, cap2, by simp [moV, ct], a1, b1⟩, ⟨y0, a2, b2⟩, ?_⟩
      simp only [bulk, Rows.uptoBulk, Rows.uptoBulkAll, List.map_cons, List.map_nil] at a3 b3 ⊢
      omega
theorem mo_arg {fuel : Nat} {v : Value} {x : DataW H × List MemPlace} (h : DataW.trod enc Tryz.prog W 0 (fun _ => true) true fuel 25 v.cells.toList = some x) : ∃ (m : Mo), MoI W m v ∧ OkM m ∧ m.name.length + (m.imports.map fun p => p.length + 1).sum + (m.decls.map bkD).sum + 1 ≤ bulk x := by
  have hl : v.cells.toList.length = 3 := by
    obtain ⟨xs, n, _, _, hlen, _⟩ := DataW.trod_struct Tryz.underlying25 h
    rw [cells_mo] at hlen
    exact hlen
  have hv : v = .agg v.cells.toList.toArray := by
    cases v with
    | agg cs => simp [Value.cells]
    | _ => simp [Value.cells] at hl
  have := mo_in h
  rw [← hv] at this
  exact this
end Go.Proofs.YteijjaabngkbjaaGreatDoor.In
namespace Go.Proofs.YteijjaabngkbjaaGreatDoor.X
open Go.RowKit Te
set_option linter.unusedSimpArgs false
set_option linter.unusedVariables false
set_option maxRecDepth 20000 in
set_option maxHeartbeats 8000000 in
theorem right_m (m : Mo) (v : Value) (w : World) (hv : MoI w m v) (ok : OkM m) (R : Int) (hR : Hidden (errM rnS cnS m = R)) :
    Calls Tryz.prog 18 #[v] w fun e w' => e = .returned (ci R) ∧ Fr (fun _ => False) w w' := by
  obtain ⟨ao, cap, aod, capd, rfl, s1, d1⟩ := hv
  obtain ⟨name, imports, decls⟩ := m
  simp only at s1 d1
  have n1 : imports.length ≤ 9223372036854775807 := by have := s1.1; have := s1.2.1; unfold maxLen at this; omega
  have n3 : decls.length ≤ 9223372036854775807 := by have := d1.1; have := d1.2.1; unfold maxLen at this; omega
  have m1 := s1.1
  have m3 := d1.1
  have hbx : Hidden ((w.alloc (.cells #[ct name, .slice ao imports.length cap, .slice aod decls.length capd] 25)).heap[w.heap.size]? = some (.cells #[ct name, .slice ao imports.length cap, .slice aod decls.length capd] 25 (0, 0))) := alloc_new _ _
  have f0 : Fr (fun _ => False) w (w.alloc (.cells #[ct name, .slice ao imports.length cap, .slice aod decls.length capd] 25)) := Fr.alloc _ _ _
  have hR1 : Hidden (orE (N.rightS name) (orE (if 16 < imports.length then 3 else 0) (orE (errI rnS imports) (orE (if 64 < decls.length then 3 else 0) (errDs rnS cnS decls)))) = R) := hR
  clear hR
  by_cases hn : N.rightS name = 0
  · by_cases h16 : 16 < imports.length
    · have hres : Hidden (3 = R) := by rw [← (show _ = R from hR1)]; simp [Hidden, orE, hn, h16]
      clear hR1
      go_enter Tryz.func18, Tryz.ntmps18
      go_wp2_with fail
      go_at_call 40
      refine (rright_any name _ hn ok.name _).mono ?_
      rintro ee w1 ⟨rfl, f1⟩
      have y1 := f1.heap hbx (fun f => f)
      have c1 : w1.cell? ⟨w.heap.size, 1, none⟩ = some (.slice ao imports.length cap) := cell_of_row _ _ 1 _ _ _ y1
      have c2 : w1.cell? ⟨w.heap.size, 2, none⟩ = some (.slice aod decls.length capd) := cell_of_row _ _ 2 _ _ _ y1
      have g1 := f0.same f1
      go_wp2_with fail
      go_ret
      exact ⟨ret_int hres, g1⟩
    · have hR2 : Hidden (orE (errI rnS imports) (orE (if 64 < decls.length then 3 else 0) (errDs rnS cnS decls)) = R) := by rw [← (show _ = R from hR1)]; simp [Hidden, orE, hn, h16]
      clear hR1
      obtain ⟨P, hP⟩ : ∃ P, errI rnS imports = P := ⟨_, rfl⟩
      obtain ⟨E, hE⟩ : ∃ E, errDs rnS cnS decls = E := ⟨_, rfl⟩
      rw [hP, hE] at hR2
      have hPH : Hidden (errI rnS imports = P) := hP
      have hEH : Hidden (errDs rnS cnS decls = E) := hE
      clear hP hE
      go_enter Tryz.func18, Tryz.ntmps18
      go_wp2_with fail
      go_at_call 40
      refine (rright_any name _ hn ok.name _).mono ?_
      rintro ee w1 ⟨rfl, f1⟩
      have y1 := f1.heap hbx (fun f => f)
      have c1 : w1.cell? ⟨w.heap.size, 1, none⟩ = some (.slice ao imports.length cap) := cell_of_row _ _ 1 _ _ _ y1
      have c2 : w1.cell? ⟨w.heap.size, 2, none⟩ = some (.slice aod decls.length capd) := cell_of_row _ _ 2 _ _ _ y1
      have g1 := f0.same f1
      go_wp2_with fail
      go_loopg [4] imports.length (fun g iv wr => ∃ (i : Nat), iv = ci (i : Int) ∧ i ≤ imports.length ∧ P = errI rnS (imports.drop i) ∧ g = imports.length - i ∧ Fr (fun _ => False) w1 wr)
      case atStart => exact ⟨0, rfl, by omega, (show _ = P from hPH).symm, rfl, Fr.refl _ _⟩
      case round =>
        obtain ⟨i, rfl, hi, hdk, hgk, hfr⟩ := hrel
        have hgkH : Hidden (gk = imports.length - i) := hgk
        have hdkH : Hidden (P = errI rnS (imports.drop i)) := hdk
        clear c1 c2
        have hbw := hfr.heap y1 (fun f => f)
        have c1 : wr.cell? ⟨w.heap.size, 1, none⟩ = some (.slice ao imports.length cap) := cell_of_row _ _ 1 _ _ _ hbw
        have c2 : wr.cell? ⟨w.heap.size, 2, none⟩ = some (.slice aod decls.length capd) := cell_of_row _ _ 2 _ _ _ hbw
        have fw := g1.same hfr
        clear hgk hdk hPH
        by_cases hil : i < imports.length
        · obtain ⟨p, hp'⟩ : ∃ p, imports[i]? = some p := ⟨imports[i], List.getElem?_eq_getElem hil⟩
          have okp := ok.imports p (List.mem_of_getElem? hp')
          rcases s1.2.2 with h0 | ⟨b, off, rfl, hc⟩
          · rw [h0] at hil; simp at hil
          have d0 := fw.cellN (hc i p hp')
          have hdk2 : Hidden (P = orE (N.rightS p) (errI rnS (imports.drop (i + 1)))) := by
            show P = _
            rw [show P = _ from hdkH, drop_at hp']
            rfl
          clear hdkH hc
          by_cases hpn : N.rightS p = 0
          · have hdk3 : Hidden (P = errI rnS (imports.drop (i + 1))) := by rw [show P = _ from hdk2]; simp [Hidden, orE, hpn]
            clear hdk2
            go_wp2_with fail
            go_at_call 40
            refine (rright_any p _ hpn okp _).mono ?_
            rintro ee w4 ⟨rfl, f4⟩
            go_wp2_with fail
            go_roundg (imports.length - (i + 1))
            case measure =>
              have : gk = imports.length - i := hgkH
              omega
            case rel => exact ⟨i + 1, by go_num, by omega, hdk3, rfl, hfr.same f4⟩
          · obtain ⟨x, hxx⟩ : ∃ x, N.rightS p = x := ⟨_, rfl⟩
            have hx0 : (x != 0) = true := by rw [← hxx]; simpa using hpn
            have hx1 : (x == 0) = false := by rw [← hxx]; simpa using hpn
            have hres : Hidden (x = R) := by
              have hx2 : ¬ x = 0 := by rw [← hxx]; exact hpn
              rw [← (show _ = R from hR2), show P = _ from hdk2, hxx]
              simp [Hidden, orE, hx2]
            clear hdk2 hR2 hpn
            go_wp2_with fail
            go_at_call 40
            refine (rright_any p _ hxx okp _).mono ?_
            rintro ee w4 ⟨rfl, f4⟩
            go_wp2_with fail
            go_ret
            exact ⟨ret_int hres, fw.same f4⟩
        · obtain rfl : i = imports.length := by omega
          obtain rfl : P = 0 := by rw [show P = _ from hdkH, List.drop_length]; rfl
          have hR3 : Hidden (orE (if 64 < decls.length then 3 else 0) E = R) := hR2
          clear hdkH hgkH hi hil hR2
          by_cases h64 : 64 < decls.length
          · have hres : Hidden (3 = R) := by rw [← (show _ = R from hR3)]; simp [Hidden, orE, h64]
            clear hR3
            go_wp2_with fail
            go_ret
            exact ⟨ret_int hres, fw⟩
          · have hR4 : Hidden (E = R) := by rw [← (show _ = R from hR3)]; simp [Hidden, orE, h64]
            clear hR3
            obtain ⟨V, rfl⟩ : ∃ V, V = wr := ⟨wr, rfl⟩
            have hfrV := hfr
            clear hfr
            go_wp2_with fail
            go_loopg [6] decls.length (fun g iv wr => ∃ (i : Nat), iv = ci (i : Int) ∧ i ≤ decls.length ∧ E = errDs rnS cnS (decls.drop i) ∧ g = decls.length - i ∧ Fr (fun _ => False) w1 wr)
            case atStart => exact ⟨0, rfl, by omega, (show _ = E from hEH).symm, rfl, hfrV⟩
            case round =>
              clear c1 c2 hbw fw
              obtain ⟨i, rfl, hi, hdk, hgk, hfr⟩ := hrel
              have hgkH : Hidden (gk = decls.length - i) := hgk
              have hdkH : Hidden (E = errDs rnS cnS (decls.drop i)) := hdk
              have hbw := hfr.heap y1 (fun f => f)
              have c1 : wr.cell? ⟨w.heap.size, 1, none⟩ = some (.slice ao imports.length cap) := cell_of_row _ _ 1 _ _ _ hbw
              have c2 : wr.cell? ⟨w.heap.size, 2, none⟩ = some (.slice aod decls.length capd) := cell_of_row _ _ 2 _ _ _ hbw
              have fw := g1.same hfr
              clear hgk hdk hEH
              by_cases hil : i < decls.length
              · obtain ⟨x, hx⟩ : ∃ x, decls[i]? = some x := ⟨decls[i], List.getElem?_eq_getElem hil⟩
                have okx := ok.decls x (List.mem_of_getElem? hx)
                rcases d1.2.2 with h0 | ⟨b, off, rfl, hc⟩
                · rw [h0] at hil; simp at hil
                obtain ⟨pv, ev, bv, hI, hcc⟩ := hc i x hx
                have d0 := fw.cellN (hcc 0 _ rfl)
                have d1 := fw.cellN (hcc 1 _ rfl)
                have d2 := fw.cellN (hcc 2 _ rfl)
                have d3 := fw.cellN (hcc 3 _ rfl)
                have d4 := fw.cellN (hcc 4 _ rfl)
                have d5 := fw.cellN (hcc 5 _ rfl)
                have d6 := fw.cellN (hcc 6 _ rfl)
                simp only [Nat.add_zero] at d0
                have kd := de_any x pv ev bv wr (hI.keep fw) okx _ rfl
                obtain ⟨a1, p1, a2, p2, a3, p3, rfl, rfl, rfl, _⟩ := hI
                have hdk2 : Hidden (E = orE (errD rnS cnS x) (errDs rnS cnS (decls.drop (i + 1)))) := by
                  show E = _
                  rw [show E = _ from hdkH, drop_at hx]
                  rfl
                generalize errD rnS cnS x = z at kd hdk2
                clear hdkH hx hc hcc
                by_cases hz : z = 0
                · subst hz
                  have hdk3 : Hidden (E = errDs rnS cnS (decls.drop (i + 1))) := hdk2
                  clear hdk2
                  go_wp2_with fail
                  go_at_call 41
                  refine kd.mono ?_
                  rintro ee w4 ⟨rfl, f4⟩
                  go_wp2_with fail
                  go_roundg (decls.length - (i + 1))
                  case measure =>
                    have : gk = decls.length - i := hgkH
                    omega
                  case rel => exact ⟨i + 1, by go_num, by omega, hdk3, rfl, hfr.same f4⟩
                · have hx0 : (z != 0) = true := by simpa using hz
                  have hx1 : (z == 0) = false := by simpa using hz
                  have hres : Hidden (z = R) := by
                    rw [← (show _ = R from hR4), show E = _ from hdk2]
                    simp [Hidden, orE, hz]
                  clear hdk2 hR4 hz
                  go_wp2_with fail
                  go_at_call 41
                  refine kd.mono ?_
                  rintro ee w4 ⟨rfl, f4⟩
                  go_wp2_with fail
                  go_ret
                  exact ⟨ret_int hres, fw.same f4⟩
              · obtain rfl : i = decls.length := by omega
                have hres : Hidden (0 = R) := by
                  rw [← (show _ = R from hR4), show E = _ from hdkH, List.drop_length]
                  exact rfl
                clear hdkH hR4
                go_wp2_with fail
                go_ret
                exact ⟨ret_int hres, fw⟩
  · obtain ⟨x, hxx⟩ : ∃ x, N.rightS name = x := ⟨_, rfl⟩
    have hx0 : (x != 0) = true := by rw [← hxx]; simpa using hn
    have hx1 : (x == 0) = false := by rw [← hxx]; simpa using hn
    have hres : Hidden (x = R) := by
      have hx2 : ¬ x = 0 := by rw [← hxx]; exact hn
      rw [← (show _ = R from hR1), hxx]
      simp [Hidden, orE, hx2]
    clear hR1 hn
    go_enter Tryz.func18, Tryz.ntmps18
    go_wp2_with fail
    go_at_call 40
    refine (rright_any name _ hxx ok.name _).mono ?_
    rintro ee w1 ⟨rfl, f1⟩
    have y1 := f1.heap hbx (fun f => f)
    have c1 : w1.cell? ⟨w.heap.size, 1, none⟩ = some (.slice ao imports.length cap) := cell_of_row _ _ 1 _ _ _ y1
    have c2 : w1.cell? ⟨w.heap.size, 2, none⟩ = some (.slice aod decls.length capd) := cell_of_row _ _ 2 _ _ _ y1
    have g1 := f0.same f1
    go_wp2_with fail
    go_ret
    exact ⟨ret_int hres, g1⟩
end Go.Proofs.YteijjaabngkbjaaGreatDoor.X
namespace Go.Proofs.YteijjaabngkbjaaGreatDoor
open Go.RowKit Te
set_option linter.unusedSimpArgs false
set_option linter.unusedVariables false
end Go.Proofs.YteijjaabngkbjaaGreatDoor
namespace Go.Proofs.YteijjaabngkbjaaGreatDoor
open Go.RowKit Lx
set_option linter.unusedSimpArgs false
set_option linter.unusedVariables false
theorem nl_no' {c : UInt8} (h : c ≠ 10) : ((c.toNat : Int) == 10) = false := by
  rw [beq_eq_false_iff_ne]
  intro e
  exact h (UInt8.toNat_inj.1 (by simpa using (by omega : c.toNat = 10)))
theorem byte_ne {c : UInt8} {n : Nat} (hn : n < 256) (h : c ≠ UInt8.ofNat n) : ((c.toNat : Int) == (n : Int)) = false := by
  rw [beq_eq_false_iff_ne]
  intro e
  exact h (UInt8.toNat_inj.1 (by rw [UInt8.toNat_ofNat']; omega))
theorem index_succ (l : By) (j : Nat) (c : UInt8) (h : l[j + 1]? = some c) (w : World) : (Instr.index 9 (.string ⟨l.toArray⟩) (.int .i64 ((j : Int) + 1))).run Tryz.prog w = .ok (.int .u8 (c.toNat : Int)) w := by
  have := str_index l (j + 1) c h w
  rw [show ((j + 1 : Nat) : Int) = (j : Int) + 1 by omega] at this
  exact this
end Go.Proofs.YteijjaabngkbjaaGreatDoor
namespace Go.Proofs.YteijjaabngkbjaaGreatDoor
open Go.RowKit Lx
set_option linter.unusedSimpArgs false
set_option linter.unusedVariables false
def ltrN (n : Nat) : Bool := (decide (97 ≤ n) && decide (n ≤ 122)) || (decide (65 ≤ n) && decide (n ≤ 90)) || decide (n = 95)
def dgtN (n : Nat) : Bool := decide (48 ≤ n) && decide (n ≤ 57)
theorem rletter_walk (n : Nat) (r : Bool) (hr : Hidden (ltrN n = r)) (w : World) :
    Calls Tryz.prog 93 #[.int .u8 (n : Int)] w fun e w' => e = .returned (.bool r) ∧ w' = w := by
  go_enter Tryz.func93, Tryz.ntmps93
  go_wp2
  all_goals (go_ret; refine ⟨?_, rfl⟩; rw [← (show _ = r from hr)]; clear hr; refine ret_bool ?_; simp [ltrN]; try omega)
theorem rdigit_walk (n : Nat) (r : Bool) (hr : Hidden (dgtN n = r)) (w : World) :
    Calls Tryz.prog 94 #[.int .u8 (n : Int)] w fun e w' => e = .returned (.bool r) ∧ w' = w := by
  go_enter Tryz.func94, Tryz.ntmps94
  go_wp2
  all_goals (go_ret; refine ⟨?_, rfl⟩; rw [← (show _ = r from hr)]; clear hr; refine ret_bool ?_; simp [dgtN]; try omega)
def hxN (n : Nat) : Bool := dgtN n || ((decide (97 ≤ n) && decide (n ≤ 102)) || n == 46 || n == 112 || n == 43 || n == 45)
theorem rhex_walk (n : Nat) (r : Bool) (hr : Hidden (hxN n = r)) (w : World) :
    Calls Tryz.prog 141 #[.int .u8 (n : Int)] w fun e w' => e = .returned (.bool r) ∧ w' = w := by
  have kd := rdigit_walk n _ rfl
  cases hd : dgtN n
  · rw [hd] at kd
    have hdH : Hidden (dgtN n = false) := hd
    clear hd
    go_enter Tryz.func141, Tryz.ntmps141
    go_wp2_with (go_at_call 94; refine (kd _).mono ?_; rintro e w' ⟨rfl, rfl⟩)
    all_goals (go_ret; refine ⟨?_, rfl⟩; rw [← (show _ = r from hr)]; clear hr; refine ret_bool ?_; rw [hxN, show dgtN n = false from hdH]; simp only [Bool.false_or, Bool.or_eq_true, Bool.and_eq_true, decide_eq_true_eq, beq_iff_eq, true_iff, Bool.false_eq_true, false_iff]; (try simp only [beq_iff_eq, beq_eq_false_iff_ne, ne_eq] at *); omega)
  · rw [hd] at kd
    have hrr : r = true := by rw [← (show _ = r from hr), hxN, hd]; rfl
    subst hrr
    clear hd hr
    go_enter Tryz.func141, Tryz.ntmps141
    go_wp2_with (go_at_call 94; refine (kd _).mono ?_; rintro e w' ⟨rfl, rfl⟩)
    go_ret
    exact ⟨rfl, rfl⟩
theorem class_nat (c : UInt8) : ltrN c.toNat = ltr c ∧ dgtN c.toNat = dgt c ∧ hxN c.toNat = hxB c := by
  have h : ∀ k < 256, ltrN k = ltr (UInt8.ofNat k) ∧ dgtN k = dgt (UInt8.ofNat k) ∧ hxN k = hxB (UInt8.ofNat k) := by decide +kernel
  have := h c.toNat c.toNat_lt
  simpa using this
theorem bl_no {c : UInt8} (h : blB c = false) : ((c.toNat : Int) == 32) = false ∧ ((c.toNat : Int) == 9) = false ∧ ((c.toNat : Int) == 10) = false ∧ ((c.toNat : Int) == 13) = false := by
  simp only [blB, Bool.or_eq_false_iff, beq_eq_false_iff_ne] at h
  obtain ⟨⟨⟨h1, h2⟩, h3⟩, h4⟩ := h
  exact ⟨byte_ne (n := 32) (by decide) h1, byte_ne (n := 9) (by decide) h2, byte_ne (n := 10) (by decide) h3, byte_ne (n := 13) (by decide) h4⟩
set_option maxHeartbeats 1000000 in
theorem skip_walk (l : By) (i R : Nat) (hi : i ≤ l.length) (hl : l.length ≤ 9223372036854775800) (hR : Hidden (i + gap (l.drop i) = R)) (w : World) :
    Calls Tryz.prog 45 #[.string ⟨l.toArray⟩, .int .i64 (i : Int)] w fun e w' => e = .returned (.int .i64 (R : Int)) ∧ w' = w := by
  have hs := str_len l
  go_enter Tryz.func45, Tryz.ntmps45
  go_wp2
  go_loopg [1] (l.length - i) (fun k iv wr => ∃ j : Nat, iv = .int .i64 (j : Int) ∧ j ≤ l.length ∧ j + gap (l.drop j) = R ∧ k = l.length - j ∧ wr = w)
  case atStart => exact ⟨i, rfl, hi, hR, rfl, rfl⟩
  case round =>
    obtain ⟨j, rfl, hj, hf, hgk, rfl⟩ := hrel
    have hgkH : Hidden (gk = l.length - j) := hgk
    clear hgk hR hi
    by_cases hjl : j < l.length
    · obtain ⟨c, hc⟩ : ∃ c, l[j]? = some c := ⟨l[j], List.getElem?_eq_getElem hjl⟩
      have hx := str_index l j c hc
      cases hb : blB c
      · obtain ⟨b1, b2, b3, b4⟩ := bl_no hb
        by_cases hn : c = 47 ∧ l[j + 1]? = some 47
        · obtain ⟨rfl, hc2⟩ := hn
          have hx2 := index_succ l j 47 hc2
          have hj2 : j + 1 < l.length := (List.getElem?_eq_some_iff.1 hc2).1
          obtain ⟨n, hr, hle, hg⟩ := gap_remark l j hc hc2
          rw [hg] at hf
          have hfH : Hidden (n + 1 + gap (l.drop (j + (n + 1))) + j = R) := by show _ = _; omega
          have hrH : Hidden (j + run (fun c => c != 10) (l.drop j) = j + (n + 1)) := by show _ = _; rw [hr]
          have hleH : Hidden (j + (n + 1) ≤ l.length) := hle
          clear hf hr hle hg hc hc2 hb
          obtain ⟨V, rfl⟩ : ∃ V, V = wr := ⟨wr, rfl⟩
          obtain ⟨G, hG⟩ : ∃ G, G = gk := ⟨gk, rfl⟩
          rw [← hG] at hgkH
          go_wp2
          go_loopg [1] (l.length - j) (fun k iv wr => ∃ m : Nat, iv = .int .i64 (m : Int) ∧ j ≤ m ∧ m ≤ l.length ∧ m + run (fun c => c != 10) (l.drop m) = j + (n + 1) ∧ k = l.length - m ∧ wr = V)
          case atStart => exact ⟨j, rfl, by omega, by omega, hrH, rfl, rfl⟩
          case round =>
            obtain ⟨m, rfl, hjm, hml, hrm, hk2, rfl⟩ := hrel
            have hk2H : Hidden (gk = l.length - m) := hk2
            clear hk2 hrH
            by_cases hm2 : m < l.length
            · obtain ⟨d, hd⟩ : ∃ d, l[m]? = some d := ⟨l[m], List.getElem?_eq_getElem hm2⟩
              have hxm := str_index l m d hd
              rw [run_step _ l m d hd] at hrm
              by_cases h10 : d = 10
              · subst h10
                simp only [bne_self_eq_false, Bool.false_eq_true, if_false] at hrm
                have hmH : Hidden (m = j + (n + 1)) := by show _ = _; omega
                clear hrm hd
                go_wp2
                go_roundg (l.length - m)
                case measure =>
                  have : G = l.length - j := hgkH
                  have : m = j + (n + 1) := hmH
                  omega
                case rel =>
                  have h1 : m = j + (n + 1) := hmH
                  have h2 : n + 1 + gap (l.drop (j + (n + 1))) + j = R := hfH
                  rw [← h1] at h2
                  exact ⟨m, rfl, by omega, by omega, rfl, rfl⟩
              · have h11 : ((d.toNat : Int) != 10) = true := by rw [bne, nl_no' h10]; rfl
                rw [if_pos (by simpa using h10)] at hrm
                have hrmH : Hidden (m + 1 + run (fun c => c != 10) (l.drop (m + 1)) = j + (n + 1)) := by show _ = _; omega
                clear hrm hd h10
                go_wp2
                go_roundg (l.length - (m + 1))
                case measure =>
                  have : gk = l.length - m := hk2H
                  omega
                case rel => exact ⟨m + 1, by go_num, by omega, by omega, hrmH, rfl, rfl⟩
            · obtain rfl : m = l.length := by omega
              rw [List.drop_length, run_nil] at hrm
              have hmH : Hidden (l.length = j + (n + 1)) := by show _ = _; omega
              clear hrm
              go_wp2
              go_roundg (l.length - l.length)
              case measure =>
                have : G = l.length - j := hgkH
                omega
              case rel =>
                have h1 : l.length = j + (n + 1) := hmH
                have h2 : n + 1 + gap (l.drop (j + (n + 1))) + j = R := hfH
                rw [← h1] at h2
                exact ⟨l.length, rfl, by omega, by omega, rfl, rfl⟩
        · have hgn := gap_none l j c hc hb hn
          rw [hgn] at hf
          have hfH : Hidden (j = R) := by show _ = _; omega
          clear hf hgn hb
          by_cases h47 : c = 47
          · subst h47
            by_cases hjn : j + 1 < l.length
            · obtain ⟨d, hd⟩ : ∃ d, l[j + 1]? = some d := ⟨l[j + 1], List.getElem?_eq_getElem hjn⟩
              have hx2 := index_succ l j d hd
              have hdn : ((d.toNat : Int) == 47) = false := byte_ne (n := 47) (by decide) (fun e => hn ⟨rfl, by rw [hd, e]; rfl⟩)
              clear hn hd hc
              go_wp2
              go_ret
              rw [← show j = R from hfH]
              exact ⟨rfl, rfl⟩
            · have hjn2 : decide ((j : Int) + 1 < (l.length : Int)) = false := decide_eq_false (by omega)
              clear hn hc
              go_wp2
              go_ret
              rw [← show j = R from hfH]
              exact ⟨rfl, rfl⟩
          · have h48 : ((c.toNat : Int) == 47) = false := byte_ne (n := 47) (by decide) h47
            clear hn h47 hc
            go_wp2
            go_ret
            rw [← show j = R from hfH]
            exact ⟨rfl, rfl⟩
      · have hg := gap_blank l j c hc hb
        rw [hg] at hf
        have hfH : Hidden (j + 1 + gap (l.drop (j + 1)) = R) := by show _ = _; omega
        simp only [blB, Bool.or_eq_true, beq_iff_eq] at hb
        clear hf hg hc
        rcases hb with ((rfl | rfl) | rfl) | rfl
        all_goals
          go_wp2
          go_roundg (l.length - (j + 1))
          case measure =>
            have : gk = l.length - j := hgkH
            omega
          case rel => exact ⟨j + 1, by go_num, by omega, hfH, rfl, rfl⟩
    · obtain rfl : j = l.length := by omega
      rw [List.drop_length] at hf
      have hfH : Hidden (l.length = R) := by show _ = _; simp only [gap, gapM] at hf; omega
      clear hf
      go_wp2
      go_ret
      rw [← show l.length = R from hfH]
      exact ⟨rfl, rfl⟩
end Go.Proofs.YteijjaabngkbjaaGreatDoor
