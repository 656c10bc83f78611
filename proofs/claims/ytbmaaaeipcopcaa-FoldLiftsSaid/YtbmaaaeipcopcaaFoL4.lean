/- How much memory an expression's Kids take (for FoldLifts, in full). -/
import Derived.Test.YtbmaaaeipcopcaaFoL3
import Derived.Test.YtbmaaaeipcopcaaFoIn
import Derived.SizedLaws
namespace Go.Proofs.Ytbmaaaeipcopcaa.Fo
open Go.RowKit Te
set_option linter.unusedSimpArgs false
set_option linter.unusedVariables false
variable {H : Type} {enc : TypeId × Value → H} {W : World}

/-- Each row of Kids is one that memory can hold. -/
def BdX : Exs → Prop
  | .nil => True
  | .cons _ k r => k.len * 88 ≤ 140737488351232 ∧ BdX k ∧ BdX r
theorem BdX_of : ∀ (k : Exs), (∀ (j : Nat) (y : EH × Exs), getX k j = some y → y.2.len * 88 ≤ 140737488351232 ∧ BdX y.2) → BdX k
  | .nil, _ => trivial
  | .cons h k r, hh => ⟨(hh 0 (h, k) rfl).1, (hh 0 (h, k) rfl).2, BdX_of r (fun j y hy => hh (j + 1) y hy)⟩
theorem BdX_get : ∀ (k : Exs) (j : Nat) (y : EH × Exs), BdX k → getX k j = some y → y.2.len * 88 ≤ 140737488351232 ∧ BdX y.2
  | .nil, j, y, _, h => by cases j <;> simp [getX] at h
  | .cons h k r, 0, y, hb, hy => by
    simp only [getX, Option.some.injEq] at hy
    subst hy
    exact ⟨hb.1, hb.2.1⟩
  | .cons h k r, j + 1, y, hb, hy => BdX_get r j y hb.2.2 (by simpa [getX] using hy)
theorem getX_lt : ∀ (k : Exs) (j : Nat) (y : EH × Exs), getX k j = some y → j < k.len
  | .nil, j, y, h => by cases j <;> simp [getX] at h
  | .cons h k r, 0, y, _ => by simp [Exs.len]
  | .cons h k r, j + 1, y, hy => by have := getX_lt r j y (by simpa [getX] using hy); simp only [Exs.len]; omega
theorem getX_some : ∀ (k : Exs) (j : Nat), j < k.len → ∃ y, getX k j = some y
  | .nil, j, h => by simp [Exs.len] at h
  | .cons h k r, 0, _ => ⟨_, rfl⟩
  | .cons h k r, j + 1, hj => getX_some r j (by simp only [Exs.len] at hj; omega)
/-- What lies where an expression of a row lies. -/
theorem exA_at {w : World} {b : Nat} : ∀ (k : Exs) (off j : Nat) (y : EH × Exs), ExA w k b off → getX k j = some y → ∃ ao cap, ExL w ao cap y.2 ∧ w.cell? ⟨b, off + j * 7, none⟩ = some (ci y.1.kind) ∧ w.cell? ⟨b, off + j * 7 + 1, none⟩ = some (ci y.1.op) ∧ w.cell? ⟨b, off + j * 7 + 2, none⟩ = some (ct y.1.mod) ∧
    w.cell? ⟨b, off + j * 7 + 3, none⟩ = some (ct y.1.name) ∧ w.cell? ⟨b, off + j * 7 + 4, none⟩ = some (ci y.1.vt) ∧ w.cell? ⟨b, off + j * 7 + 5, none⟩ = some (.int .u64 y.1.vb) ∧ w.cell? ⟨b, off + j * 7 + 6, none⟩ = some (.slice ao y.2.len cap)
  | .nil, off, j, y, _, h => by cases j <;> simp [getX] at h
  | .cons h k r, off, 0, y, hA, hy => by
    simp only [getX, Option.some.injEq] at hy
    subst hy
    obtain ⟨ao, cap, h1, h2, c0, c1, c2, c3, c4, c5, c6⟩ := ex_row hA
    exact ⟨ao, cap, h1, by simpa using c0, by simpa using c1, by simpa using c2, by simpa using c3, by simpa using c4, by simpa using c5, by simpa using c6⟩
  | .cons h k r, off, j + 1, y, hA, hy => by
    obtain ⟨ao, cap, h1, h2, _⟩ := ex_row hA
    have := exA_at r (off + 7) j y h2 (by simpa [getX] using hy)
    rw [show off + 7 + j * 7 = off + (j + 1) * 7 by omega] at this
    exact this
theorem cells_ex : Try.prog.cellsOf 27 = 7 := by kernel_rfl
theorem cells_exs : Try.prog.cellsOf 25 = 1 := by kernel_rfl
theorem mem_all {P : Program} {e : TypeId} : ∀ {l : List (DataW H)} {i : Nat} {d : DataW H}, l[i]? = some d → ∀ n ∈ d.weights P e, n ∈ DataW.weightsAll P e l
  | [], i, d, h => by simp at h
  | x :: r, 0, d, h => fun n hn => by
    obtain rfl : x = d := by simpa using h
    simp [DataW.weightsAll, hn]
  | x :: r, i + 1, d, h => fun n hn => by
    have := mem_all (l := r) (i := i) (by simpa using h) n hn
    simp [DataW.weightsAll, this]
set_option maxRecDepth 20000 in
/-- The row of an expression's Kids, out of the expression. -/
theorem ex_kids {fuel : Nat} {c0 c1 c2 c3 c4 c5 c6 : Value} {x : DataW H × List MemPlace} (h : DataW.trod enc Try.prog W 0 (fun _ => true) true fuel 27 [c0, c1, c2, c3, c4, c5, c6] = some x) (hw : ∀ n ∈ x.1.weights Try.prog 27, n ≤ reachBytes) :
    ∃ n x5, n < fuel ∧ DataW.trod enc Try.prog W 0 (fun _ => true) true n 25 [c6] = some x5 ∧ ∀ m ∈ x5.1.weights Try.prog 25, m ≤ reachBytes := by
  obtain ⟨xs, n, rfl, rfl, hlen, hxl, hf⟩ := DataW.trod_struct Try.underlying27 h
  have hxl : xs.length = 6 := hxl
  match xs, hxl with
  | [x0, x1, x2, x3, x4, x5], _ =>
    have f5 : DataW.trod enc Try.prog W 0 (fun _ => true) true n 25 [c6] = some x5 := by
      have : DataW.trod enc Try.prog W 0 (fun _ => true) true n 25 (([c0, c1, c2, c3, c4, c5, c6].drop 6).take (Try.prog.cellsOf 25)) = some x5 := hf 5 _ rfl
      rw [cells_exs] at this
      exact this
    refine ⟨n, x5, Nat.lt_succ_self _, f5, fun m hm => hw m ?_⟩
    simp only [DataW.weights, Try.underlying27, List.map_cons, List.map_nil, DataW.weightsEach]
    simp [hm]
set_option maxRecDepth 20000 in
theorem kids_size : ∀ (fuel : Nat) (k : Exs) (ao : Option Addr) (cap : Nat) (x : DataW H × List MemPlace), DataW.trod enc Try.prog W 0 (fun _ => true) true fuel 25 [.slice ao k.len cap] = some x → ExL W ao cap k → (∀ n ∈ x.1.weights Try.prog 25, n ≤ reachBytes) →
    k.len * 88 ≤ 140737488351232 ∧ BdX k := by
  intro fuel
  induction fuel using Nat.strongRecOn with
  | _ fuel ih =>
  intro k ao cap x h hE hw
  rcases Ty.open_sl Try.underlying25 h with h0 | ⟨a, len, cap2, n2, el, rest, hfu, h0, _, _, hx, hl, hel⟩
  · simp only [Value.slice.injEq] at h0
    have : k = .nil := by
      cases k with
      | nil => rfl
      | cons _ _ _ => simp [Exs.len] at h0
    subst this
    exact ⟨by simp [Exs.len], trivial⟩
  · simp only [Value.slice.injEq] at h0
    obtain ⟨rfl, hlen, rfl⟩ := h0
    have hb : Try.prog.bytesOf 27 = 88 := by kernel_rfl
    have e : x.1.weights Try.prog 25 = (el.length + rest.length) * Try.prog.bytesOf 27 :: (DataW.weightsAll Try.prog 27 (el.map (·.1)) ++ DataW.weightsAll Try.prog 27 (rest.map (·.1))) := by
      rw [hx]
      simp only [DataW.weights, Try.underlying25, List.length_map]
    rw [e] at hw
    refine ⟨?_, BdX_of k fun j y hy => ?_⟩
    · have := hw _ (List.mem_cons_self ..)
      rw [hb] at this
      unfold reachBytes at this
      omega
    · have hjl := getX_lt k j y hy
      rcases hE.2.2 with h4 | ⟨b, off, hab, h4⟩
      · omega
      obtain rfl : a = ⟨b, off, none⟩ := Option.some.inj hab
      obtain ⟨ao', cap', hL, _, _, _, _, _, _, k2⟩ := exA_at k off j y h4 hy
      obtain ⟨y1, cs, hy1, hcs, ht⟩ := hel j (by omega)
      obtain ⟨_, hcl, hcc⟩ := World.cells?_some hcs
      rw [cells_ex] at hcl hcc
      match cs, hcl with
      | [c0, c1, c2, c3, c4, c5, c6], _ =>
        have k1 := hcc 6 (by omega)
        rw [Addr.add_lit, Addr.add_lit, k2] at k1
        obtain rfl : Value.slice ao' y.2.len cap' = c6 := by simpa using k1
        obtain ⟨n5, x5, hlt, ht5, hw5⟩ := ex_kids ht (fun m hm => hw m (List.mem_cons_of_mem _ (List.mem_append_left _ (mem_all (i := j) (by rw [List.getElem?_map, hy1]; rfl) m hm))))
        exact ih n5 (by omega) y.2 ao' cap' x5 ht5 hL hw5
theorem expr_size {fuel : Nat} {h : EH} {k : Exs} {v : Value} {x : DataW H × List MemPlace} (ht : DataW.trod enc Try.prog W 0 (fun _ => true) true fuel 27 v.cells.toList = some x) (hE : ExI W h k v) (hw : ∀ n ∈ x.1.weights Try.prog 27, n ≤ reachBytes) : k.len * 88 ≤ 140737488351232 ∧ BdX k := by
  obtain ⟨ao, cap, rfl, hk⟩ := hE
  obtain ⟨n, x5, _, h5, hw5⟩ := ex_kids (c0 := ci h.kind) (c1 := ci h.op) (c2 := ct h.mod) (c3 := ct h.name) (c4 := ci h.vt) (c5 := .int .u64 h.vb) (c6 := .slice ao k.len cap) ht hw
  exact kids_size n k ao cap x5 h5 hk hw5
theorem cons_size {fuel : Nat} {l : List Con} {c : Value} {x : DataW H × List MemPlace} (ht : DataW.trod enc Try.prog W 0 (fun _ => true) true fuel 28 [c] = some x) (hI : CoI W c l) (hw : ∀ n ∈ x.1.weights Try.prog 28, n ≤ reachBytes) : l.length * 48 ≤ 140737488351232 := by
  obtain ⟨ao, cap, rfl, _⟩ := hI
  rcases Ty.open_sl Try.underlying28 ht with h0 | ⟨a, len, cap2, n2, el, rest, hfu, h0, _, _, hx, hl, hel⟩
  · simp only [Value.slice.injEq] at h0
    rw [h0.2.1]
    simp
  · simp only [Value.slice.injEq] at h0
    have hb : Try.prog.bytesOf 35 = 48 := by kernel_rfl
    have e : x.1.weights Try.prog 28 = (el.length + rest.length) * Try.prog.bytesOf 35 :: (DataW.weightsAll Try.prog 35 (el.map (·.1)) ++ DataW.weightsAll Try.prog 35 (rest.map (·.1))) := by
      rw [hx]
      simp only [DataW.weights, Try.underlying28, List.length_map]
    rw [e] at hw
    have := hw _ (List.mem_cons_self ..)
    rw [hb] at this
    unfold reachBytes at this
    omega
end Go.Proofs.Ytbmaaaeipcopcaa.Fo
