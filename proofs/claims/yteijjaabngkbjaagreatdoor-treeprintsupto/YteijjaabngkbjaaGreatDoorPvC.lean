/- The document's printing (3): a declaration's head. -/
import Derived.Test.YteijjaabngkbjaaGreatDoorPvA
import Derived.Test.YteijjaabngkbjaaGreatDoorPyI
import Derived.Deep.RegionHeld3
namespace Go.Proofs.YteijjaabngkbjaaGreatDoor.V
open Go.RowKit Te
set_option linter.unusedSimpArgs false
set_option linter.unusedVariables false

def tyN (t : Int) : Bs := if t = 1 then [105, 110, 116] else if t = 2 then [102, 108, 111, 97, 116] else [98, 111, 111, 108]
theorem tyT_N {t : Int} (h : t = 1 ∨ t = 2 ∨ t = 3) : tyT t = [58, 32] ++ tyN t := by rcases h with rfl | rfl | rfl <;> rfl
set_option maxRecDepth 20000 in
theorem type_r (t : Int) (ht : t = 1 ∨ t = 2 ∨ t = 3) (w : World) : Calls Tryz.prog 42 #[ci t] w fun e w' => e = .returned (ct (tyN t)) ∧ w' = w := by
  rcases ht with rfl | rfl | rfl
  all_goals
    go_enter Tryz.func42, Tryz.ntmps42
    go_wp2
    go_ret
    exact ⟨rfl, rfl⟩
/-- The first line of a declaration. -/
def hdT (d : De) : Bs :=
  if d.kind = 1 then exT d.ex ++ [99, 111, 110, 115, 116, 32] ++ d.name ++ tyT d.type ++ [32, 61, 32] ++ txF txS d.e ++ [59]
  else if d.kind = 2 then [118, 97, 114, 32] ++ d.name ++ tyT d.type ++ [32, 61, 32] ++ txF txS d.e ++ [59]
  else exT d.ex ++ [102, 110, 32] ++ d.name ++ [40] ++ paT d.params ++ [41] ++ tyT d.type ++ [32, 123]
set_option maxRecDepth 20000 in
set_option maxHeartbeats 4000000 in
theorem head_1t (name : Bs) (ty : Int) (hty : ty = 1 ∨ ty = 2 ∨ ty = 3) (T : Bs) (w : World) (ao1 ao3 : Option Addr) (n1 n3 cap1 cap3 : Nat) (x : EH) (kx : Exs) (b0 off cap2 : Nat) (aok : Option Addr) (capk : Nat) (ho : OkE x) (hx : OkX kx) (hs : ShE x kx.len) (hsl : ShL kx)
    (hk : ExL w aok capk kx) (h0 : w.cell? ⟨b0, off, none⟩ = some (ci x.kind)) (h1 : w.cell? ⟨b0, off + 1, none⟩ = some (ci x.op)) (h2 : w.cell? ⟨b0, off + 2, none⟩ = some (ct x.mod)) (h3 : w.cell? ⟨b0, off + 3, none⟩ = some (ct x.name)) (h4 : w.cell? ⟨b0, off + 4, none⟩ = some (ci x.vt)) (h5 : w.cell? ⟨b0, off + 5, none⟩ = some (.int .u64 x.vb)) (h6 : w.cell? ⟨b0, off + 6, none⟩ = some (.slice aok kx.len capk))
    (hT : Hidden ([101, 120, 112, 111, 114, 116, 32] ++ [99, 111, 110, 115, 116, 32] ++ name ++ tyT ty ++ [32, 61, 32] ++ txA txS x kx 1 ++ [59] = T)) (hl : T.length ≤ 140737488355328) :
    Calls Tryz.prog 19 #[.agg #[ci 1, .bool true, ct name, ci ty, .slice ao1 n1 cap1, .slice (some ⟨b0, off, none⟩) 1 cap2, .slice ao3 n3 cap3]] w fun e w' => e = .returned (ct T) ∧ Fr (fun _ => False) w w' := by
  have f0 := Fr.alloc (fun _ => False) w (deO 1 true name ty (.slice ao1 n1 cap1) (.slice (some ⟨b0, off, none⟩) 1 cap2) (.slice ao3 n3 cap3))
  have hbx : Hidden ((w.alloc (deO 1 true name ty (.slice ao1 n1 cap1) (.slice (some ⟨b0, off, none⟩) 1 cap2) (.slice ao3 n3 cap3))).heap[w.heap.size]? = some (deO 1 true name ty (.slice ao1 n1 cap1) (.slice (some ⟨b0, off, none⟩) 1 cap2) (.slice ao3 n3 cap3))) := alloc_new _ _
  have hlen : (txA txS x kx 1).length ≤ 140737488355328 := by
    have := congrArg List.length (show _ = T from hT)
    simp only [List.length_append] at this
    omega
  have ke := fun (w1 : World) (f1 : Fr (fun _ => False) (w.alloc (deO 1 true name ty (.slice ao1 n1 cap1) (.slice (some ⟨b0, off, none⟩) 1 cap2) (.slice ao3 n3 cap3))) w1) => X.at_any x kx 1 aok capk w1 _ ho hx hs hsl (hk.keep (f0.same f1)) rfl (by omega)
  rw [tyT_N hty] at hT
  generalize txA txS x kx 1 = E at ke hT hlen
  have kt := fun (w1 : World) => type_r ty hty w1
  generalize tyN ty = Y at kt hT
  obtain ⟨S1, hS1⟩ : ∃ S : Bs, ([101, 120, 112, 111, 114, 116, 32] : Bs) ++ ([99, 111, 110, 115, 116, 32] : Bs) = S := ⟨_, rfl⟩
  obtain ⟨S2, hS2⟩ : ∃ S : Bs, (S1 : Bs) ++ (name : Bs) = S := ⟨_, rfl⟩
  obtain ⟨S3, hS3⟩ : ∃ S : Bs, (S2 : Bs) ++ ([58, 32] : Bs) = S := ⟨_, rfl⟩
  obtain ⟨S4, hS4⟩ : ∃ S : Bs, (S3 : Bs) ++ (Y : Bs) = S := ⟨_, rfl⟩
  obtain ⟨S5, hS5⟩ : ∃ S : Bs, (S4 : Bs) ++ ([32, 61, 32] : Bs) = S := ⟨_, rfl⟩
  obtain ⟨S6, hS6⟩ : ∃ S : Bs, (S5 : Bs) ++ (E : Bs) = S := ⟨_, rfl⟩
  obtain ⟨S7, hS7⟩ : ∃ S : Bs, (S6 : Bs) ++ ([59] : Bs) = S := ⟨_, rfl⟩
  have lenS : S7.length ≤ 140737488355328 := by rw [← hS7, ← hS6, ← hS5, ← hS4, ← hS3, ← hS2, ← hS1]; have h9 := hl; rw [← (show _ = T from hT)] at h9; simp only [List.length_append] at h9 ⊢; omega
  have cS1 := fun w => X.catv [101, 120, 112, 111, 114, 116, 32] [99, 111, 110, 115, 116, 32] S1 hS1 (by have := lenS; rw [← hS7, ← hS6, ← hS5, ← hS4, ← hS3, ← hS2] at this; simp only [List.length_append] at this; omega) w
  have cS2 := fun w => X.catv S1 name S2 hS2 (by have := lenS; rw [← hS7, ← hS6, ← hS5, ← hS4, ← hS3] at this; simp only [List.length_append] at this; omega) w
  have cS3 := fun w => X.catv S2 [58, 32] S3 hS3 (by have := lenS; rw [← hS7, ← hS6, ← hS5, ← hS4] at this; simp only [List.length_append] at this; omega) w
  have cS4 := fun w => X.catv S3 Y S4 hS4 (by have := lenS; rw [← hS7, ← hS6, ← hS5] at this; simp only [List.length_append] at this; omega) w
  have cS5 := fun w => X.catv S4 [32, 61, 32] S5 hS5 (by have := lenS; rw [← hS7, ← hS6] at this; simp only [List.length_append] at this; omega) w
  have cS6 := fun w => X.catv S5 E S6 hS6 (by have := lenS; rw [← hS7] at this; simp only [List.length_append] at this; omega) w
  have cS7 := fun w => X.catv S6 [59] S7 hS7 (by have := lenS; omega) w
  have HS1 : Hidden (_ = S1) := hS1
  have HS2 : Hidden (_ = S2) := hS2
  have HS3 : Hidden (_ = S3) := hS3
  have HS4 : Hidden (_ = S4) := hS4
  have HS5 : Hidden (_ = S5) := hS5
  have HS6 : Hidden (_ = S6) := hS6
  have HS7 : Hidden (_ = S7) := hS7
  clear hS1 hS2 hS3 hS4 hS5 hS6 hS7 lenS
  have hST : Hidden (S7 = T) := by show _ = T; rw [← (show _ = S7 from HS7), ← (show _ = S6 from HS6), ← (show _ = S5 from HS5), ← (show _ = S4 from HS4), ← (show _ = S3 from HS3), ← (show _ = S2 from HS2), ← (show _ = S1 from HS1), ← (show _ = T from hT)]; simp
  have hd0 : Fr (fun _ => False) (w.alloc (deO 1 true name ty (.slice ao1 n1 cap1) (.slice (some ⟨b0, off, none⟩) 1 cap2) (.slice ao3 n3 cap3))) (w.alloc (deO 1 true name ty (.slice ao1 n1 cap1) (.slice (some ⟨b0, off, none⟩) 1 cap2) (.slice ao3 n3 cap3))).drew := Fr.drew _ _
  obtain ⟨c0, c1, c2, c3, c4, c5, c6⟩ := ex_box hbx
  have d0 := f0.cellN h0
  have d1 := f0.cellN h1
  have d2 := f0.cellN h2
  have d3 := f0.cellN h3
  have d4 := f0.cellN h4
  have d5 := f0.cellN h5
  have d6 := f0.cellN h6
  clear hT
  go_enter Tryz.func19, Tryz.ntmps19
  go_wp2_with fail
  go_region_held3 (fun w' => w'.cell? ⟨w.heap.size, 2, none⟩ = some (ct name) ∧ w'.cell? ⟨w.heap.size, 3, none⟩ = some (ci ty) ∧ w'.cell? ⟨w.heap.size, 5, none⟩ = some (.slice (some ⟨b0, off, none⟩) 1 cap2) ∧ w'.cell? ⟨b0, off, none⟩ = some (ci x.kind) ∧ w'.cell? ⟨b0, off + 1, none⟩ = some (ci x.op) ∧ w'.cell? ⟨b0, off + 2, none⟩ = some (ct x.mod) ∧ w'.cell? ⟨b0, off + 3, none⟩ = some (ct x.name) ∧ w'.cell? ⟨b0, off + 4, none⟩ = some (ci x.vt) ∧ w'.cell? ⟨b0, off + 5, none⟩ = some (.int .u64 x.vb) ∧ w'.cell? ⟨b0, off + 6, none⟩ = some (.slice aok kx.len capk)) (first | (refine ⟨by assumption, by assumption, by assumption, by assumption, by assumption, by assumption, by assumption, by assumption, by assumption, by assumption⟩) | go_keep) (first
    | (go_at_call 42; refine (kt _).mono ?_; rintro e wt ⟨rfl, hwt⟩; have hwt := hwt.symm; subst hwt)
    | (go_at_call 43; refine (ke _ hd0).mono ?_; rintro e wa ⟨rfl, fa⟩; have ga := hd0.same fa; have q2 := ga.cellN c2; have q3 := ga.cellN c3; have q5 := ga.cellN c5; have y0 := ga.cellN d0; have y1 := ga.cellN d1; have y2 := ga.cellN d2; have y3 := ga.cellN d3; have y4 := ga.cellN d4; have y5 := ga.cellN d5; have y6 := ga.cellN d6))
  all_goals
    go_wp2_with fail
    go_ret
    refine ⟨?_, f0.same (hd0.same fa)⟩
    rw [← (show _ = T from hST)]
    rfl
set_option maxRecDepth 20000 in
set_option maxHeartbeats 4000000 in
theorem head_1f (name : Bs) (ty : Int) (hty : ty = 1 ∨ ty = 2 ∨ ty = 3) (T : Bs) (w : World) (ao1 ao3 : Option Addr) (n1 n3 cap1 cap3 : Nat) (x : EH) (kx : Exs) (b0 off cap2 : Nat) (aok : Option Addr) (capk : Nat) (ho : OkE x) (hx : OkX kx) (hs : ShE x kx.len) (hsl : ShL kx)
    (hk : ExL w aok capk kx) (h0 : w.cell? ⟨b0, off, none⟩ = some (ci x.kind)) (h1 : w.cell? ⟨b0, off + 1, none⟩ = some (ci x.op)) (h2 : w.cell? ⟨b0, off + 2, none⟩ = some (ct x.mod)) (h3 : w.cell? ⟨b0, off + 3, none⟩ = some (ct x.name)) (h4 : w.cell? ⟨b0, off + 4, none⟩ = some (ci x.vt)) (h5 : w.cell? ⟨b0, off + 5, none⟩ = some (.int .u64 x.vb)) (h6 : w.cell? ⟨b0, off + 6, none⟩ = some (.slice aok kx.len capk))
    (hT : Hidden ([] ++ [99, 111, 110, 115, 116, 32] ++ name ++ tyT ty ++ [32, 61, 32] ++ txA txS x kx 1 ++ [59] = T)) (hl : T.length ≤ 140737488355328) :
    Calls Tryz.prog 19 #[.agg #[ci 1, .bool false, ct name, ci ty, .slice ao1 n1 cap1, .slice (some ⟨b0, off, none⟩) 1 cap2, .slice ao3 n3 cap3]] w fun e w' => e = .returned (ct T) ∧ Fr (fun _ => False) w w' := by
  have f0 := Fr.alloc (fun _ => False) w (deO 1 false name ty (.slice ao1 n1 cap1) (.slice (some ⟨b0, off, none⟩) 1 cap2) (.slice ao3 n3 cap3))
  have hbx : Hidden ((w.alloc (deO 1 false name ty (.slice ao1 n1 cap1) (.slice (some ⟨b0, off, none⟩) 1 cap2) (.slice ao3 n3 cap3))).heap[w.heap.size]? = some (deO 1 false name ty (.slice ao1 n1 cap1) (.slice (some ⟨b0, off, none⟩) 1 cap2) (.slice ao3 n3 cap3))) := alloc_new _ _
  have hlen : (txA txS x kx 1).length ≤ 140737488355328 := by
    have := congrArg List.length (show _ = T from hT)
    simp only [List.length_append] at this
    omega
  have ke := fun (w1 : World) (f1 : Fr (fun _ => False) (w.alloc (deO 1 false name ty (.slice ao1 n1 cap1) (.slice (some ⟨b0, off, none⟩) 1 cap2) (.slice ao3 n3 cap3))) w1) => X.at_any x kx 1 aok capk w1 _ ho hx hs hsl (hk.keep (f0.same f1)) rfl (by omega)
  rw [tyT_N hty] at hT
  generalize txA txS x kx 1 = E at ke hT hlen
  have kt := fun (w1 : World) => type_r ty hty w1
  generalize tyN ty = Y at kt hT
  obtain ⟨S1, hS1⟩ : ∃ S : Bs, ([] : Bs) ++ ([99, 111, 110, 115, 116, 32] : Bs) = S := ⟨_, rfl⟩
  obtain ⟨S2, hS2⟩ : ∃ S : Bs, (S1 : Bs) ++ (name : Bs) = S := ⟨_, rfl⟩
  obtain ⟨S3, hS3⟩ : ∃ S : Bs, (S2 : Bs) ++ ([58, 32] : Bs) = S := ⟨_, rfl⟩
  obtain ⟨S4, hS4⟩ : ∃ S : Bs, (S3 : Bs) ++ (Y : Bs) = S := ⟨_, rfl⟩
  obtain ⟨S5, hS5⟩ : ∃ S : Bs, (S4 : Bs) ++ ([32, 61, 32] : Bs) = S := ⟨_, rfl⟩
  obtain ⟨S6, hS6⟩ : ∃ S : Bs, (S5 : Bs) ++ (E : Bs) = S := ⟨_, rfl⟩
  obtain ⟨S7, hS7⟩ : ∃ S : Bs, (S6 : Bs) ++ ([59] : Bs) = S := ⟨_, rfl⟩
  have lenS : S7.length ≤ 140737488355328 := by rw [← hS7, ← hS6, ← hS5, ← hS4, ← hS3, ← hS2, ← hS1]; have h9 := hl; rw [← (show _ = T from hT)] at h9; simp only [List.length_append] at h9 ⊢; omega
  have cS1 := fun w => X.catv [] [99, 111, 110, 115, 116, 32] S1 hS1 (by have := lenS; rw [← hS7, ← hS6, ← hS5, ← hS4, ← hS3, ← hS2] at this; simp only [List.length_append] at this; omega) w
  have cS2 := fun w => X.catv S1 name S2 hS2 (by have := lenS; rw [← hS7, ← hS6, ← hS5, ← hS4, ← hS3] at this; simp only [List.length_append] at this; omega) w
  have cS3 := fun w => X.catv S2 [58, 32] S3 hS3 (by have := lenS; rw [← hS7, ← hS6, ← hS5, ← hS4] at this; simp only [List.length_append] at this; omega) w
  have cS4 := fun w => X.catv S3 Y S4 hS4 (by have := lenS; rw [← hS7, ← hS6, ← hS5] at this; simp only [List.length_append] at this; omega) w
  have cS5 := fun w => X.catv S4 [32, 61, 32] S5 hS5 (by have := lenS; rw [← hS7, ← hS6] at this; simp only [List.length_append] at this; omega) w
  have cS6 := fun w => X.catv S5 E S6 hS6 (by have := lenS; rw [← hS7] at this; simp only [List.length_append] at this; omega) w
  have cS7 := fun w => X.catv S6 [59] S7 hS7 (by have := lenS; omega) w
  have HS1 : Hidden (_ = S1) := hS1
  have HS2 : Hidden (_ = S2) := hS2
  have HS3 : Hidden (_ = S3) := hS3
  have HS4 : Hidden (_ = S4) := hS4
  have HS5 : Hidden (_ = S5) := hS5
  have HS6 : Hidden (_ = S6) := hS6
  have HS7 : Hidden (_ = S7) := hS7
  clear hS1 hS2 hS3 hS4 hS5 hS6 hS7 lenS
  have hST : Hidden (S7 = T) := by show _ = T; rw [← (show _ = S7 from HS7), ← (show _ = S6 from HS6), ← (show _ = S5 from HS5), ← (show _ = S4 from HS4), ← (show _ = S3 from HS3), ← (show _ = S2 from HS2), ← (show _ = S1 from HS1), ← (show _ = T from hT)]; simp
  have hd0 : Fr (fun _ => False) (w.alloc (deO 1 false name ty (.slice ao1 n1 cap1) (.slice (some ⟨b0, off, none⟩) 1 cap2) (.slice ao3 n3 cap3))) (w.alloc (deO 1 false name ty (.slice ao1 n1 cap1) (.slice (some ⟨b0, off, none⟩) 1 cap2) (.slice ao3 n3 cap3))).drew := Fr.drew _ _
  obtain ⟨c0, c1, c2, c3, c4, c5, c6⟩ := ex_box hbx
  have d0 := f0.cellN h0
  have d1 := f0.cellN h1
  have d2 := f0.cellN h2
  have d3 := f0.cellN h3
  have d4 := f0.cellN h4
  have d5 := f0.cellN h5
  have d6 := f0.cellN h6
  clear hT
  go_enter Tryz.func19, Tryz.ntmps19
  go_wp2_with fail
  go_region_held3 (fun w' => w'.cell? ⟨w.heap.size, 2, none⟩ = some (ct name) ∧ w'.cell? ⟨w.heap.size, 3, none⟩ = some (ci ty) ∧ w'.cell? ⟨w.heap.size, 5, none⟩ = some (.slice (some ⟨b0, off, none⟩) 1 cap2) ∧ w'.cell? ⟨b0, off, none⟩ = some (ci x.kind) ∧ w'.cell? ⟨b0, off + 1, none⟩ = some (ci x.op) ∧ w'.cell? ⟨b0, off + 2, none⟩ = some (ct x.mod) ∧ w'.cell? ⟨b0, off + 3, none⟩ = some (ct x.name) ∧ w'.cell? ⟨b0, off + 4, none⟩ = some (ci x.vt) ∧ w'.cell? ⟨b0, off + 5, none⟩ = some (.int .u64 x.vb) ∧ w'.cell? ⟨b0, off + 6, none⟩ = some (.slice aok kx.len capk)) (first | (refine ⟨by assumption, by assumption, by assumption, by assumption, by assumption, by assumption, by assumption, by assumption, by assumption, by assumption⟩) | go_keep) (first
    | (go_at_call 42; refine (kt _).mono ?_; rintro e wt ⟨rfl, hwt⟩; have hwt := hwt.symm; subst hwt)
    | (go_at_call 43; refine (ke _ hd0).mono ?_; rintro e wa ⟨rfl, fa⟩; have ga := hd0.same fa; have q2 := ga.cellN c2; have q3 := ga.cellN c3; have q5 := ga.cellN c5; have y0 := ga.cellN d0; have y1 := ga.cellN d1; have y2 := ga.cellN d2; have y3 := ga.cellN d3; have y4 := ga.cellN d4; have y5 := ga.cellN d5; have y6 := ga.cellN d6))
  all_goals
    go_wp2_with fail
    go_ret
    refine ⟨?_, f0.same (hd0.same fa)⟩
    rw [← (show _ = T from hST)]
    rfl
set_option maxRecDepth 20000 in
set_option maxHeartbeats 4000000 in
theorem head_2f (name : Bs) (ty : Int) (hty : ty = 1 ∨ ty = 2 ∨ ty = 3) (T : Bs) (w : World) (ao1 ao3 : Option Addr) (n1 n3 cap1 cap3 : Nat) (x : EH) (kx : Exs) (b0 off cap2 : Nat) (aok : Option Addr) (capk : Nat) (ho : OkE x) (hx : OkX kx) (hs : ShE x kx.len) (hsl : ShL kx)
    (hk : ExL w aok capk kx) (h0 : w.cell? ⟨b0, off, none⟩ = some (ci x.kind)) (h1 : w.cell? ⟨b0, off + 1, none⟩ = some (ci x.op)) (h2 : w.cell? ⟨b0, off + 2, none⟩ = some (ct x.mod)) (h3 : w.cell? ⟨b0, off + 3, none⟩ = some (ct x.name)) (h4 : w.cell? ⟨b0, off + 4, none⟩ = some (ci x.vt)) (h5 : w.cell? ⟨b0, off + 5, none⟩ = some (.int .u64 x.vb)) (h6 : w.cell? ⟨b0, off + 6, none⟩ = some (.slice aok kx.len capk))
    (hT : Hidden ([] ++ [118, 97, 114, 32] ++ name ++ tyT ty ++ [32, 61, 32] ++ txA txS x kx 1 ++ [59] = T)) (hl : T.length ≤ 140737488355328) :
    Calls Tryz.prog 19 #[.agg #[ci 2, .bool false, ct name, ci ty, .slice ao1 n1 cap1, .slice (some ⟨b0, off, none⟩) 1 cap2, .slice ao3 n3 cap3]] w fun e w' => e = .returned (ct T) ∧ Fr (fun _ => False) w w' := by
  have f0 := Fr.alloc (fun _ => False) w (deO 2 false name ty (.slice ao1 n1 cap1) (.slice (some ⟨b0, off, none⟩) 1 cap2) (.slice ao3 n3 cap3))
  have hbx : Hidden ((w.alloc (deO 2 false name ty (.slice ao1 n1 cap1) (.slice (some ⟨b0, off, none⟩) 1 cap2) (.slice ao3 n3 cap3))).heap[w.heap.size]? = some (deO 2 false name ty (.slice ao1 n1 cap1) (.slice (some ⟨b0, off, none⟩) 1 cap2) (.slice ao3 n3 cap3))) := alloc_new _ _
  have hlen : (txA txS x kx 1).length ≤ 140737488355328 := by
    have := congrArg List.length (show _ = T from hT)
    simp only [List.length_append] at this
    omega
  have ke := fun (w1 : World) (f1 : Fr (fun _ => False) (w.alloc (deO 2 false name ty (.slice ao1 n1 cap1) (.slice (some ⟨b0, off, none⟩) 1 cap2) (.slice ao3 n3 cap3))) w1) => X.at_any x kx 1 aok capk w1 _ ho hx hs hsl (hk.keep (f0.same f1)) rfl (by omega)
  rw [tyT_N hty] at hT
  generalize txA txS x kx 1 = E at ke hT hlen
  have kt := fun (w1 : World) => type_r ty hty w1
  generalize tyN ty = Y at kt hT
  obtain ⟨S1, hS1⟩ : ∃ S : Bs, ([] : Bs) ++ ([118, 97, 114, 32] : Bs) = S := ⟨_, rfl⟩
  obtain ⟨S2, hS2⟩ : ∃ S : Bs, (S1 : Bs) ++ (name : Bs) = S := ⟨_, rfl⟩
  obtain ⟨S3, hS3⟩ : ∃ S : Bs, (S2 : Bs) ++ ([58, 32] : Bs) = S := ⟨_, rfl⟩
  obtain ⟨S4, hS4⟩ : ∃ S : Bs, (S3 : Bs) ++ (Y : Bs) = S := ⟨_, rfl⟩
  obtain ⟨S5, hS5⟩ : ∃ S : Bs, (S4 : Bs) ++ ([32, 61, 32] : Bs) = S := ⟨_, rfl⟩
  obtain ⟨S6, hS6⟩ : ∃ S : Bs, (S5 : Bs) ++ (E : Bs) = S := ⟨_, rfl⟩
  obtain ⟨S7, hS7⟩ : ∃ S : Bs, (S6 : Bs) ++ ([59] : Bs) = S := ⟨_, rfl⟩
  have lenS : S7.length ≤ 140737488355328 := by rw [← hS7, ← hS6, ← hS5, ← hS4, ← hS3, ← hS2, ← hS1]; have h9 := hl; rw [← (show _ = T from hT)] at h9; simp only [List.length_append] at h9 ⊢; omega
  have cS1 := fun w => X.catv [] [118, 97, 114, 32] S1 hS1 (by have := lenS; rw [← hS7, ← hS6, ← hS5, ← hS4, ← hS3, ← hS2] at this; simp only [List.length_append] at this; omega) w
  have cS2 := fun w => X.catv S1 name S2 hS2 (by have := lenS; rw [← hS7, ← hS6, ← hS5, ← hS4, ← hS3] at this; simp only [List.length_append] at this; omega) w
  have cS3 := fun w => X.catv S2 [58, 32] S3 hS3 (by have := lenS; rw [← hS7, ← hS6, ← hS5, ← hS4] at this; simp only [List.length_append] at this; omega) w
  have cS4 := fun w => X.catv S3 Y S4 hS4 (by have := lenS; rw [← hS7, ← hS6, ← hS5] at this; simp only [List.length_append] at this; omega) w
  have cS5 := fun w => X.catv S4 [32, 61, 32] S5 hS5 (by have := lenS; rw [← hS7, ← hS6] at this; simp only [List.length_append] at this; omega) w
  have cS6 := fun w => X.catv S5 E S6 hS6 (by have := lenS; rw [← hS7] at this; simp only [List.length_append] at this; omega) w
  have cS7 := fun w => X.catv S6 [59] S7 hS7 (by have := lenS; omega) w
  have HS1 : Hidden (_ = S1) := hS1
  have HS2 : Hidden (_ = S2) := hS2
  have HS3 : Hidden (_ = S3) := hS3
  have HS4 : Hidden (_ = S4) := hS4
  have HS5 : Hidden (_ = S5) := hS5
  have HS6 : Hidden (_ = S6) := hS6
  have HS7 : Hidden (_ = S7) := hS7
  clear hS1 hS2 hS3 hS4 hS5 hS6 hS7 lenS
  have hST : Hidden (S7 = T) := by show _ = T; rw [← (show _ = S7 from HS7), ← (show _ = S6 from HS6), ← (show _ = S5 from HS5), ← (show _ = S4 from HS4), ← (show _ = S3 from HS3), ← (show _ = S2 from HS2), ← (show _ = S1 from HS1), ← (show _ = T from hT)]; simp
  have hd0 : Fr (fun _ => False) (w.alloc (deO 2 false name ty (.slice ao1 n1 cap1) (.slice (some ⟨b0, off, none⟩) 1 cap2) (.slice ao3 n3 cap3))) (w.alloc (deO 2 false name ty (.slice ao1 n1 cap1) (.slice (some ⟨b0, off, none⟩) 1 cap2) (.slice ao3 n3 cap3))).drew := Fr.drew _ _
  obtain ⟨c0, c1, c2, c3, c4, c5, c6⟩ := ex_box hbx
  have d0 := f0.cellN h0
  have d1 := f0.cellN h1
  have d2 := f0.cellN h2
  have d3 := f0.cellN h3
  have d4 := f0.cellN h4
  have d5 := f0.cellN h5
  have d6 := f0.cellN h6
  clear hT
  go_enter Tryz.func19, Tryz.ntmps19
  go_wp2_with fail
  go_region_held3 (fun w' => w'.cell? ⟨w.heap.size, 2, none⟩ = some (ct name) ∧ w'.cell? ⟨w.heap.size, 3, none⟩ = some (ci ty) ∧ w'.cell? ⟨w.heap.size, 5, none⟩ = some (.slice (some ⟨b0, off, none⟩) 1 cap2) ∧ w'.cell? ⟨b0, off, none⟩ = some (ci x.kind) ∧ w'.cell? ⟨b0, off + 1, none⟩ = some (ci x.op) ∧ w'.cell? ⟨b0, off + 2, none⟩ = some (ct x.mod) ∧ w'.cell? ⟨b0, off + 3, none⟩ = some (ct x.name) ∧ w'.cell? ⟨b0, off + 4, none⟩ = some (ci x.vt) ∧ w'.cell? ⟨b0, off + 5, none⟩ = some (.int .u64 x.vb) ∧ w'.cell? ⟨b0, off + 6, none⟩ = some (.slice aok kx.len capk)) (first | (refine ⟨by assumption, by assumption, by assumption, by assumption, by assumption, by assumption, by assumption, by assumption, by assumption, by assumption⟩) | go_keep) (first
    | (go_at_call 42; refine (kt _).mono ?_; rintro e wt ⟨rfl, hwt⟩; have hwt := hwt.symm; subst hwt)
    | (go_at_call 43; refine (ke _ hd0).mono ?_; rintro e wa ⟨rfl, fa⟩; have ga := hd0.same fa; have q2 := ga.cellN c2; have q3 := ga.cellN c3; have q5 := ga.cellN c5; have y0 := ga.cellN d0; have y1 := ga.cellN d1; have y2 := ga.cellN d2; have y3 := ga.cellN d3; have y4 := ga.cellN d4; have y5 := ga.cellN d5; have y6 := ga.cellN d6))
  all_goals
    go_wp2_with fail
    go_ret
    refine ⟨?_, f0.same (hd0.same fa)⟩
    rw [← (show _ = T from hST)]
    rfl
end Go.Proofs.YteijjaabngkbjaaGreatDoor.V
