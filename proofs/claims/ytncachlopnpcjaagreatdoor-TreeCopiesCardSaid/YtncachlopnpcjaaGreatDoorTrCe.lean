/- How much memory a module's rows take, all through (for TreeCopies, in full). -/
import Derived.Test.YtncachlopnpcjaaGreatDoorTrCc
import Derived.Test.YtncachlopnpcjaaGreatDoorTrK
namespace Go.Proofs.YtncachlopnpcjaaGreatDoor.Sl
open Go.RowKit Te
set_option linter.unusedSimpArgs false
set_option linter.unusedVariables false
variable {H : Type} {enc : TypeId × Value → H} {W : World}

theorem mem_all {P : Program} {e : TypeId} : ∀ {l : List (DataW H)} {i : Nat} {d : DataW H}, l[i]? = some d → ∀ n ∈ d.weights P e, n ∈ DataW.weightsAll P e l
  | [], i, d, h => by simp at h
  | x :: r, 0, d, h => fun n hn => by
    obtain rfl : x = d := by simpa using h
    simp [DataW.weightsAll, hn]
  | x :: r, i + 1, d, h => fun n hn => by
    have := mem_all (l := r) (i := i) (by simpa using h) n hn
    simp [DataW.weightsAll, this]
/-- A row's weight, and its elements'. -/
theorem row_w {t e : TypeId} (ht : Tryz.prog.underlying t = some (.slice e)) {fuel : Nat} {ao : Option Addr} {len cap : Nat} {x : DataW H × List MemPlace} (h : DataW.trod enc Tryz.prog W 0 (fun _ => true) true fuel t [.slice ao len cap] = some x) (hw : ∀ n ∈ x.1.weights Tryz.prog t, n ≤ reachBytes) :
    len * Tryz.prog.bytesOf e ≤ reachBytes ∧ ∀ i, i < len → ∃ a n y cs, ao = some a ∧ n < fuel ∧ W.cells? 0 (a.add (i * Tryz.prog.cellsOf e)) (Tryz.prog.cellsOf e) = some cs ∧ DataW.trod enc Tryz.prog W 0 (fun _ => true) true n e cs = some y ∧ ∀ m ∈ y.1.weights Tryz.prog e, m ≤ reachBytes := by
  rcases In.open_sl ht h with h0 | ⟨a, len2, cap2, n2, el, rest, hfu, h0, _, _, hx, hl, hel⟩
  · simp only [Value.slice.injEq] at h0
    obtain ⟨_, rfl, _⟩ := h0
    exact ⟨by simp, fun i hi => by omega⟩
  · simp only [Value.slice.injEq] at h0
    obtain ⟨rfl, hlen, rfl⟩ := h0
    subst hlen
    have e1 : x.1.weights Tryz.prog t = (el.length + rest.length) * Tryz.prog.bytesOf e :: (DataW.weightsAll Tryz.prog e (el.map (·.1)) ++ DataW.weightsAll Tryz.prog e (rest.map (·.1))) := by
      rw [hx]
      simp only [DataW.weights, ht, List.length_map]
    rw [e1] at hw
    refine ⟨?_, fun i hi => ?_⟩
    · have := hw _ (List.mem_cons_self ..)
      have h2 : len * Tryz.prog.bytesOf e ≤ (el.length + rest.length) * Tryz.prog.bytesOf e := Nat.mul_le_mul_right _ (by omega)
      omega
    · obtain ⟨y, cs, hy, hcs, hty⟩ := hel i hi
      exact ⟨a, n2, y, cs, rfl, by omega, hcs, hty, fun m hm => hw m (List.mem_cons_of_mem _ (List.mem_append_left _ (mem_all (i := i) (by rw [List.getElem?_map, hy]; rfl) m hm)))⟩
theorem cells_ex : Tryz.prog.cellsOf 39 = 7 := by kernel_rfl
theorem cells_exs : Tryz.prog.cellsOf 37 = 1 := by kernel_rfl
theorem cells_st : Tryz.prog.cellsOf 67 = 5 := by kernel_rfl
theorem cells_sts : Tryz.prog.cellsOf 45 = 1 := by kernel_rfl
theorem cells_de7 : Tryz.prog.cellsOf 47 = 7 := by kernel_rfl
theorem cells_pas : Tryz.prog.cellsOf 44 = 1 := by kernel_rfl
theorem cells_strs : Tryz.prog.cellsOf 22 = 1 := by kernel_rfl
theorem cells_desx : Tryz.prog.cellsOf 23 = 1 := by kernel_rfl
theorem bytes_ex : Tryz.prog.bytesOf 39 = 88 := by kernel_rfl
theorem bytes_st : Tryz.prog.bytesOf 67 = 96 := by kernel_rfl
theorem bytes_de : Tryz.prog.bytesOf 47 = 112 := by kernel_rfl
theorem bytes_pa : Tryz.prog.bytesOf 53 = 24 := by kernel_rfl
theorem bytes_str : Tryz.prog.bytesOf 9 = 16 := by kernel_rfl
theorem reach_is : reachBytes = 140737488351232 := by unfold reachBytes; decide
/- Expressions. -/
theorem ex_at {w : World} {b : Nat} : ∀ (k : Exs) (off j : Nat) (y : EH × Exs), ExA w k b off → (toL k)[j]? = some y → ∃ ao cap, ExL w ao cap y.2 ∧ w.cell? ⟨b, off + j * 7 + 6, none⟩ = some (.slice ao y.2.len cap)
  | .nil, off, j, y, _, h => by simp [toL] at h
  | .cons h k r, off, 0, y, ⟨⟨ao, cap, h1, h2, h3, h4⟩, _⟩, hy => by
    obtain rfl : (h, k) = y := by simpa [toL] using hy
    exact ⟨ao, cap, ⟨h2, h3, h4⟩, by simpa using h1 6 _ rfl⟩
  | .cons h k r, off, j + 1, y, ⟨_, h5⟩, hy => by
    obtain ⟨ao, cap, q1, q2⟩ := ex_at r (off + 7) j y h5 (by simpa [toL] using hy)
    exact ⟨ao, cap, q1, by rw [show off + (j + 1) * 7 + 6 = off + 7 + j * 7 + 6 by omega]; exact q2⟩
theorem BdE_of : ∀ (k : Exs), (∀ (j : Nat) (y : EH × Exs), (toL k)[j]? = some y → y.2.len * 88 ≤ 140737488351232 ∧ BdE y.2) → BdE k
  | .nil, _ => trivial
  | .cons h k r, hh => ⟨hh 0 (h, k) rfl, BdE_of r (fun j y hy => hh (j + 1) y (by simpa [toL] using hy))⟩
set_option maxRecDepth 20000 in
theorem ex_kids {fuel : Nat} {c0 c1 c2 c3 c4 c5 c6 : Value} {x : DataW H × List MemPlace} (h : DataW.trod enc Tryz.prog W 0 (fun _ => true) true fuel 39 [c0, c1, c2, c3, c4, c5, c6] = some x) (hw : ∀ n ∈ x.1.weights Tryz.prog 39, n ≤ reachBytes) :
    ∃ n x5, n < fuel ∧ DataW.trod enc Tryz.prog W 0 (fun _ => true) true n 37 [c6] = some x5 ∧ ∀ m ∈ x5.1.weights Tryz.prog 37, m ≤ reachBytes := by
  obtain ⟨xs, n, rfl, rfl, hlen, hxl, hf⟩ := DataW.trod_struct Tryz.underlying39 h
  have hxl : xs.length = 6 := hxl
  match xs, hxl with
  | [x0, x1, x2, x3, x4, x5], _ =>
    have f5 : DataW.trod enc Tryz.prog W 0 (fun _ => true) true n 37 [c6] = some x5 := by
      have : DataW.trod enc Tryz.prog W 0 (fun _ => true) true n 37 (([c0, c1, c2, c3, c4, c5, c6].drop 6).take (Tryz.prog.cellsOf 37)) = some x5 := hf 5 _ rfl
      rw [cells_exs] at this
      exact this
    refine ⟨n, x5, Nat.lt_succ_self _, f5, fun m hm => hw m ?_⟩
    simp only [DataW.weights, Tryz.underlying39, List.map_cons, List.map_nil, DataW.weightsEach]
    simp [hm]
set_option maxRecDepth 20000 in
theorem kids_bd : ∀ (fuel : Nat) (k : Exs) (ao : Option Addr) (cap : Nat) (x : DataW H × List MemPlace), DataW.trod enc Tryz.prog W 0 (fun _ => true) true fuel 37 [.slice ao k.len cap] = some x → ExL W ao cap k → (∀ n ∈ x.1.weights Tryz.prog 37, n ≤ reachBytes) →
    k.len * 88 ≤ 140737488351232 ∧ BdE k := by
  intro fuel
  induction fuel using Nat.strongRecOn with
  | _ fuel ih =>
  intro k ao cap x h hE hw
  obtain ⟨r1, r2⟩ := row_w Tryz.underlying37 h hw
  rw [bytes_ex, reach_is] at r1
  refine ⟨r1, BdE_of k fun j y hy => ?_⟩
  have hjl : j < k.len := by have := (List.getElem?_eq_some_iff.1 hy).1; rw [toL_len] at this; exact this
  rcases hE.2.2 with h4 | ⟨b, off, hab, h4⟩
  · omega
  obtain ⟨a, n, y1, cs, ha, hlt, hcs, hty, hwy⟩ := r2 j hjl
  obtain rfl : a = ⟨b, off, none⟩ := Option.some.inj (ha.symm.trans hab)
  obtain ⟨ao', cap', hL, k2⟩ := ex_at k off j y h4 hy
  obtain ⟨_, hcl, hcc⟩ := World.cells?_some hcs
  rw [cells_ex] at hcl hcc
  match cs, hcl with
  | [c0, c1, c2, c3, c4, c5, c6], _ =>
    have k1 := hcc 6 (by omega)
    rw [Addr.add_lit, Addr.add_lit, k2] at k1
    obtain rfl : Value.slice ao' y.2.len cap' = c6 := by simpa using k1
    obtain ⟨n5, x5, hlt5, ht5, hw5⟩ := ex_kids hty hwy
    exact ih n5 (by omega) y.2 ao' cap' x5 ht5 hL hw5
/- Statements. -/
theorem st_at {w : World} {b : Nat} : ∀ (k : Sts) (off j : Nat) (y : StX), StA w k b off → (toS k)[j]? = some y → ∃ a1 c1 a2 c2 a3 c3, ExL w a1 c1 y.e ∧ StL w a2 c2 y.b ∧ StL w a3 c3 y.l ∧ w.cell? ⟨b, off + j * 5 + 2, none⟩ = some (.slice a1 y.e.len c1) ∧ w.cell? ⟨b, off + j * 5 + 3, none⟩ = some (.slice a2 y.b.len c2) ∧ w.cell? ⟨b, off + j * 5 + 4, none⟩ = some (.slice a3 y.l.len c3)
  | .nil, off, j, y, _, h => by simp [toS] at h
  | .cons h e bo el r, off, 0, y, ⟨⟨a1, c1, a2, c2, a3, c3, h1, h2, h3, h4⟩, _⟩, hy => by
    obtain rfl : (⟨h, e, bo, el⟩ : StX) = y := by simpa [toS] using hy
    exact ⟨a1, c1, a2, c2, a3, c3, h2, h3, h4, by simpa using h1 2 _ rfl, by simpa using h1 3 _ rfl, by simpa using h1 4 _ rfl⟩
  | .cons h e bo el r, off, j + 1, y, ⟨_, h5⟩, hy => by
    obtain ⟨a1, c1, a2, c2, a3, c3, q1, q2, q3, q4, q5, q6⟩ := st_at r (off + 5) j y h5 (by simpa [toS] using hy)
    exact ⟨a1, c1, a2, c2, a3, c3, q1, q2, q3, by rw [show off + (j + 1) * 5 + 2 = off + 5 + j * 5 + 2 by omega]; exact q4, by rw [show off + (j + 1) * 5 + 3 = off + 5 + j * 5 + 3 by omega]; exact q5, by rw [show off + (j + 1) * 5 + 4 = off + 5 + j * 5 + 4 by omega]; exact q6⟩
theorem BdS_of : ∀ (k : Sts), (∀ (j : Nat) (y : StX), (toS k)[j]? = some y → (y.e.len * 88 ≤ 140737488351232 ∧ BdE y.e) ∧ (y.b.len * 96 ≤ 140737488351232 ∧ BdS y.b) ∧ (y.l.len * 96 ≤ 140737488351232 ∧ BdS y.l)) → BdS k
  | .nil, _ => trivial
  | .cons h e bo el r, hh => by
    obtain ⟨q1, q2, q3⟩ := hh 0 ⟨h, e, bo, el⟩ rfl
    exact ⟨q1, q2, q3, BdS_of r (fun j y hy => hh (j + 1) y (by simpa [toS] using hy))⟩
set_option maxRecDepth 20000 in
theorem st_parts {fuel : Nat} {c0 c1 c2 c3 c4 : Value} {x : DataW H × List MemPlace} (h : DataW.trod enc Tryz.prog W 0 (fun _ => true) true fuel 67 [c0, c1, c2, c3, c4] = some x) (hw : ∀ n ∈ x.1.weights Tryz.prog 67, n ≤ reachBytes) :
    ∃ n x2 x3 x4, n < fuel ∧ (DataW.trod enc Tryz.prog W 0 (fun _ => true) true n 37 [c2] = some x2 ∧ ∀ m ∈ x2.1.weights Tryz.prog 37, m ≤ reachBytes) ∧ (DataW.trod enc Tryz.prog W 0 (fun _ => true) true n 45 [c3] = some x3 ∧ ∀ m ∈ x3.1.weights Tryz.prog 45, m ≤ reachBytes) ∧ (DataW.trod enc Tryz.prog W 0 (fun _ => true) true n 45 [c4] = some x4 ∧ ∀ m ∈ x4.1.weights Tryz.prog 45, m ≤ reachBytes) := by
  obtain ⟨xs, n, rfl, rfl, hlen, hxl, hf⟩ := DataW.trod_struct Tryz.underlying67 h
  have hxl : xs.length = 5 := hxl
  match xs, hxl with
  | [x0, x1, x2, x3, x4], _ =>
    have f2 : DataW.trod enc Tryz.prog W 0 (fun _ => true) true n 37 [c2] = some x2 := by
      have : DataW.trod enc Tryz.prog W 0 (fun _ => true) true n 37 (([c0, c1, c2, c3, c4].drop 2).take (Tryz.prog.cellsOf 37)) = some x2 := hf 2 _ rfl
      rw [cells_exs] at this
      exact this
    have f3 : DataW.trod enc Tryz.prog W 0 (fun _ => true) true n 45 [c3] = some x3 := by
      have : DataW.trod enc Tryz.prog W 0 (fun _ => true) true n 45 (([c0, c1, c2, c3, c4].drop 3).take (Tryz.prog.cellsOf 45)) = some x3 := hf 3 _ rfl
      rw [cells_sts] at this
      exact this
    have f4 : DataW.trod enc Tryz.prog W 0 (fun _ => true) true n 45 [c4] = some x4 := by
      have : DataW.trod enc Tryz.prog W 0 (fun _ => true) true n 45 (([c0, c1, c2, c3, c4].drop 4).take (Tryz.prog.cellsOf 45)) = some x4 := hf 4 _ rfl
      rw [cells_sts] at this
      exact this
    refine ⟨n, x2, x3, x4, Nat.lt_succ_self _, ⟨f2, fun m hm => hw m ?_⟩, ⟨f3, fun m hm => hw m ?_⟩, f4, fun m hm => hw m ?_⟩
    all_goals
      simp only [DataW.weights, Tryz.underlying67, List.map_cons, List.map_nil, DataW.weightsEach]
      simp [hm]
set_option maxRecDepth 20000 in
theorem sts_bd : ∀ (fuel : Nat) (k : Sts) (ao : Option Addr) (cap : Nat) (x : DataW H × List MemPlace), DataW.trod enc Tryz.prog W 0 (fun _ => true) true fuel 45 [.slice ao k.len cap] = some x → StL W ao cap k → (∀ n ∈ x.1.weights Tryz.prog 45, n ≤ reachBytes) →
    k.len * 96 ≤ 140737488351232 ∧ BdS k := by
  intro fuel
  induction fuel using Nat.strongRecOn with
  | _ fuel ih =>
  intro k ao cap x h hE hw
  obtain ⟨r1, r2⟩ := row_w Tryz.underlying45 h hw
  rw [bytes_st, reach_is] at r1
  refine ⟨r1, BdS_of k fun j y hy => ?_⟩
  have hjl : j < k.len := by have := (List.getElem?_eq_some_iff.1 hy).1; rw [toS_len] at this; exact this
  rcases hE.2.2 with h4 | ⟨b, off, hab, h4⟩
  · omega
  obtain ⟨a, n, y1, cs, ha, hlt, hcs, hty, hwy⟩ := r2 j hjl
  obtain rfl : a = ⟨b, off, none⟩ := Option.some.inj (ha.symm.trans hab)
  obtain ⟨a1, q1, a2, q2, a3, q3, hL1, hL2, hL3, k2, k3, k4⟩ := st_at k off j y h4 hy
  obtain ⟨_, hcl, hcc⟩ := World.cells?_some hcs
  rw [cells_st] at hcl hcc
  match cs, hcl with
  | [c0, c1, c2, c3, c4], _ =>
    have l2 := hcc 2 (by omega)
    rw [Addr.add_lit, Addr.add_lit, k2] at l2
    obtain rfl : Value.slice a1 y.e.len q1 = c2 := by simpa using l2
    have l3 := hcc 3 (by omega)
    rw [Addr.add_lit, Addr.add_lit, k3] at l3
    obtain rfl : Value.slice a2 y.b.len q2 = c3 := by simpa using l3
    have l4 := hcc 4 (by omega)
    rw [Addr.add_lit, Addr.add_lit, k4] at l4
    obtain rfl : Value.slice a3 y.l.len q3 = c4 := by simpa using l4
    obtain ⟨n5, x2, x3, x4, hlt5, ⟨t2, w2⟩, ⟨t3, w3⟩, t4, w4⟩ := st_parts hty hwy
    exact ⟨kids_bd n5 y.e a1 q1 x2 t2 hL1 w2, ih n5 (by omega) y.b a2 q2 x3 t3 hL2 w3, ih n5 (by omega) y.l a3 q3 x4 t4 hL3 w4⟩
/- Declarations. -/
set_option maxRecDepth 20000 in
theorem de_bd {fuel : Nat} {d : De} {c0 c1 c2 c3 pv ev bv : Value} {x : DataW H × List MemPlace} (h : DataW.trod enc Tryz.prog W 0 (fun _ => true) true fuel 47 [c0, c1, c2, c3, pv, ev, bv] = some x) (hd : DeI W d pv ev bv) (hw : ∀ n ∈ x.1.weights Tryz.prog 47, n ≤ reachBytes) : BdD d := by
  obtain ⟨a1, k1, a2, k2, a3, k3, rfl, rfl, rfl, hP, hE, hB⟩ := hd
  obtain ⟨xs, n, rfl, rfl, hlen, hxl, hf⟩ := DataW.trod_struct Tryz.underlying47 h
  have hxl : xs.length = 7 := hxl
  match xs, hxl with
  | [x0, x1, x2, x3, x4, x5, x6], _ =>
    have f4 : DataW.trod enc Tryz.prog W 0 (fun _ => true) true n 44 [.slice a1 d.params.length k1] = some x4 := by
      have : DataW.trod enc Tryz.prog W 0 (fun _ => true) true n 44 (([c0, c1, c2, c3, .slice a1 d.params.length k1, .slice a2 d.e.len k2, .slice a3 d.body.len k3].drop 4).take (Tryz.prog.cellsOf 44)) = some x4 := hf 4 _ rfl
      rw [cells_pas] at this
      exact this
    have f5 : DataW.trod enc Tryz.prog W 0 (fun _ => true) true n 37 [.slice a2 d.e.len k2] = some x5 := by
      have : DataW.trod enc Tryz.prog W 0 (fun _ => true) true n 37 (([c0, c1, c2, c3, .slice a1 d.params.length k1, .slice a2 d.e.len k2, .slice a3 d.body.len k3].drop 5).take (Tryz.prog.cellsOf 37)) = some x5 := hf 5 _ rfl
      rw [cells_exs] at this
      exact this
    have f6 : DataW.trod enc Tryz.prog W 0 (fun _ => true) true n 45 [.slice a3 d.body.len k3] = some x6 := by
      have : DataW.trod enc Tryz.prog W 0 (fun _ => true) true n 45 (([c0, c1, c2, c3, .slice a1 d.params.length k1, .slice a2 d.e.len k2, .slice a3 d.body.len k3].drop 6).take (Tryz.prog.cellsOf 45)) = some x6 := hf 6 _ rfl
      rw [cells_sts] at this
      exact this
    have w4 : ∀ m ∈ x4.1.weights Tryz.prog 44, m ≤ reachBytes := fun m hm => hw m (by
      simp only [DataW.weights, Tryz.underlying47, List.map_cons, List.map_nil, DataW.weightsEach]
      simp [hm])
    have w5 : ∀ m ∈ x5.1.weights Tryz.prog 37, m ≤ reachBytes := fun m hm => hw m (by
      simp only [DataW.weights, Tryz.underlying47, List.map_cons, List.map_nil, DataW.weightsEach]
      simp [hm])
    have w6 : ∀ m ∈ x6.1.weights Tryz.prog 45, m ≤ reachBytes := fun m hm => hw m (by
      simp only [DataW.weights, Tryz.underlying47, List.map_cons, List.map_nil, DataW.weightsEach]
      simp [hm])
    have r4 := (row_w Tryz.underlying44 f4 w4).1
    rw [bytes_pa, reach_is] at r4
    obtain ⟨e1, e2⟩ := kids_bd n d.e a2 k2 x5 f5 hE w5
    obtain ⟨b1, b2⟩ := sts_bd n d.body a3 k3 x6 f6 hB w6
    exact ⟨r4, e1, e2, b1, b2⟩
set_option maxRecDepth 20000 in
theorem mo_bd {fuel : Nat} {m : Mo} {v : Value} {x : DataW H × List MemPlace} (h : DataW.trod enc Tryz.prog W 0 (fun _ => true) true fuel 25 v.cells.toList = some x) (hm : MoI W m v) (hw : ∀ n ∈ x.1.weights Tryz.prog 25, n ≤ reachBytes) : BdM m := by
  obtain ⟨ao, cap, ao', cap', rfl, _, hD⟩ := hm
  obtain ⟨xs, n, rfl, rfl, hlen, hxl, hf⟩ := DataW.trod_struct Tryz.underlying25 h
  have hxl : xs.length = 3 := hxl
  match xs, hxl with
  | [x0, x1, x2], _ =>
    have f1 : DataW.trod enc Tryz.prog W 0 (fun _ => true) true n 22 [.slice ao m.imports.length cap] = some x1 := by
      have : DataW.trod enc Tryz.prog W 0 (fun _ => true) true n 22 (((moV m ao cap ao' cap').cells.toList.drop 1).take (Tryz.prog.cellsOf 22)) = some x1 := hf 1 _ rfl
      rw [cells_strs] at this
      exact this
    have f2 : DataW.trod enc Tryz.prog W 0 (fun _ => true) true n 23 [.slice ao' m.decls.length cap'] = some x2 := by
      have : DataW.trod enc Tryz.prog W 0 (fun _ => true) true n 23 (((moV m ao cap ao' cap').cells.toList.drop 2).take (Tryz.prog.cellsOf 23)) = some x2 := hf 2 _ rfl
      rw [cells_desx] at this
      exact this
    have w1 : ∀ k ∈ x1.1.weights Tryz.prog 22, k ≤ reachBytes := fun k hk => hw k (by
      simp only [DataW.weights, Tryz.underlying25, List.map_cons, List.map_nil, DataW.weightsEach]
      simp [hk])
    have w2 : ∀ k ∈ x2.1.weights Tryz.prog 23, k ≤ reachBytes := fun k hk => hw k (by
      simp only [DataW.weights, Tryz.underlying25, List.map_cons, List.map_nil, DataW.weightsEach]
      simp [hk])
    have r1 := (row_w Tryz.underlying22 f1 w1).1
    rw [bytes_str, reach_is] at r1
    obtain ⟨r2, r3⟩ := row_w Tryz.underlying23 f2 w2
    rw [bytes_de, reach_is] at r2
    refine ⟨r1, r2, fun d hd => ?_⟩
    obtain ⟨j, hj⟩ := List.getElem?_of_mem hd
    have hjl := (List.getElem?_eq_some_iff.1 hj).1
    rcases hD.2.2 with h4 | ⟨b, off, hab, h4⟩
    · rw [h4] at hj; simp at hj
    obtain ⟨a, n2, y1, cs, ha, hlt, hcs, hty, hwy⟩ := r3 j hjl
    obtain rfl : a = ⟨b, off, none⟩ := Option.some.inj (ha.symm.trans hab)
    obtain ⟨pv, ev, bv, hI, hc⟩ := h4 j d hj
    obtain ⟨_, hcl, hcc⟩ := World.cells?_some hcs
    rw [cells_de7] at hcl hcc
    match cs, hcl with
    | [c0, c1, c2, c3, c4, c5, c6], _ =>
      have l4 := hcc 4 (by omega)
      rw [Addr.add_lit, Addr.add_lit, hc 4 _ rfl] at l4
      obtain rfl : pv = c4 := by simpa using l4
      have l5 := hcc 5 (by omega)
      rw [Addr.add_lit, Addr.add_lit, hc 5 _ rfl] at l5
      obtain rfl : ev = c5 := by simpa using l5
      have l6 := hcc 6 (by omega)
      rw [Addr.add_lit, Addr.add_lit, hc 6 _ rfl] at l6
      obtain rfl : bv = c6 := by simpa using l6
      exact de_bd hty hI hwy
end Go.Proofs.YtncachlopnpcjaaGreatDoor.Sl
