/- A function, a program that come in. -/
import Derived.Test.YtphpmaimgndjmaaDoorCdIn
import Derived.Test.YtphpmaimgndjmaaDoorCdLa
namespace Go.Proofs.YtphpmaimgndjmaaDoor.Cd
open Go.RowKit Go.WideShapes Go.ChangeShapes Go.ChangeAt Go.Deep Ty
set_option linter.unusedSimpArgs false
set_option linter.unusedVariables false
variable {H : Type} {enc : TypeId × Value → H} {W : World}

theorem cells_ints : Tryd.prog.cellsOf 22 = 1 := by kernel_rfl
theorem cells_inss : Tryd.prog.cellsOf 25 = 1 := by kernel_rfl
theorem cells_sigs : Tryd.prog.cellsOf 28 = 1 := by kernel_rfl
theorem cells_sig : Tryd.prog.cellsOf 24 = 2 := by kernel_rfl
theorem cells_fn : Tryd.prog.cellsOf 27 = 4 := by kernel_rfl
theorem cells_fm : Tryd.prog.cellsOf 30 = 2 := by kernel_rfl
theorem bytes_int : Tryd.prog.bytesOf 3 = 8 := by kernel_rfl
theorem bytes_sig : Tryd.prog.bytesOf 24 = 32 := by kernel_rfl
theorem int1_in {n : Nat} {cs : List Value} {x : DataW H × List MemPlace} (h : DataW.trod enc Tryd.prog W 0 (fun _ => true) true n 3 cs = some x) : ∃ z : Int, cs = [ci z] ∧ Ty.I64 z := by
  obtain ⟨t, e0, rfl, w0⟩ := DataW.trod_int Tryd.underlying3 h
  exact ⟨t, e0, Gn.wf_i64 w0⟩
theorem ints_in {fuel : Nat} {c : Value} {x : DataW H × List MemPlace} (h : DataW.trod enc Tryd.prog W 0 (fun _ => true) true fuel 22 [c] = some x) (hw : ∀ n ∈ x.1.weights Tryd.prog 22, n ≤ reachBytes) :
    ∃ ao cap, ∃ l : List Int, c = .slice ao l.length cap ∧ InL W ao cap l ∧ l.length ≤ 17592186044416 := by
  obtain ⟨ao, cap, l, rfl, hr, hs⟩ := Gn.row_w Tryd.underlying22 cells_int (by decide) bytes_int (fun (z : Int) cs => cs = [ci z]) (fun n cs y h1 _ => by
    obtain ⟨z, rfl, _⟩ := int1_in h1
    exact ⟨z, rfl, rfl⟩) h hw
  refine ⟨ao, cap, l, rfl, ?_, by unfold reachBytes at hs; omega⟩
  obtain ⟨h1, h2, h3, h4⟩ := hr
  refine ⟨h1, h2, h3, ?_⟩
  rcases h4 with rfl | ⟨b, off, rfl, hlt, h4⟩
  · exact Or.inl rfl
  · refine Or.inr ⟨b, off, rfl, fun i z hz => ?_⟩
    obtain ⟨cs, rfl, h5⟩ := h4 i z hz
    have := h5 0 (ci z) rfl
    rw [Nat.mul_one, Nat.add_zero] at this
    exact this
set_option maxRecDepth 20000 in
theorem sig_in {fuel : Nat} {cs : List Value} {x : DataW H × List MemPlace} (h : DataW.trod enc Tryd.prog W 0 (fun _ => true) true fuel 24 cs = some x) (hw : ∀ n ∈ x.1.weights Tryd.prog 24, n ≤ reachBytes) :
    ∃ ao cap, ∃ s : Sg, cs = [.slice ao s.ps.length cap, ci s.res] ∧ InL W ao cap s.ps ∧ s.ps.length ≤ 17592186044416 := by
  obtain ⟨xs, n, rfl, rfl, hlen, hxl, hf⟩ := DataW.trod_struct Tryd.underlying24 h
  rw [cells_sig] at hlen
  have hxl : xs.length = 2 := hxl
  match cs, hlen, xs, hxl with
  | [c0, c1], _, [x0, x1], _ =>
    have f0 : DataW.trod enc Tryd.prog W 0 (fun _ => true) true n 22 [c0] = some x0 := by
      have : DataW.trod enc Tryd.prog W 0 (fun _ => true) true n 22 (([c0, c1].drop 0).take (Tryd.prog.cellsOf 22)) = some x0 := hf 0 _ rfl
      rw [cells_ints] at this
      exact this
    have f1 : DataW.trod enc Tryd.prog W 0 (fun _ => true) true n 3 [c1] = some x1 := by
      have : DataW.trod enc Tryd.prog W 0 (fun _ => true) true n 3 (([c0, c1].drop 1).take (Tryd.prog.cellsOf 3)) = some x1 := hf 1 _ rfl
      rw [cells_int] at this
      exact this
    have hw0 : ∀ n ∈ x0.1.weights Tryd.prog 22, n ≤ reachBytes := fun n hn => hw n (by
      simp only [DataW.weights, Tryd.underlying24]
      exact DataW.weights_mem_each (j := 0) rfl rfl n hn)
    obtain ⟨ao, cap, l, rfl, hI, hb⟩ := ints_in f0 hw0
    obtain ⟨z, e, _⟩ := int1_in f1
    simp only [List.cons.injEq, and_true] at e
    subst e
    exact ⟨ao, cap, ⟨l, z⟩, rfl, hI, hb⟩
/-- A function that comes in. -/
def FnA (W : World) (v : Value) (f : Fu) : Prop := ∃ a0 a2 a3 c0 c2 c3, v = .agg (fnV f a0 a2 a3 c0 c2 c3) ∧ InL W a0 c0 f.sg.ps ∧ InL W a2 c2 f.loc ∧ IL W a3 c3 f.cd ∧ f.sg.ps.length ≤ 17592186044416 ∧ f.loc.length ≤ 17592186044416 ∧ f.cd.length ≤ 4398046510976 ∧ ∀ i ∈ f.cd, OkIn i
set_option maxRecDepth 20000 in
theorem fn_arg {fuel : Nat} {v : Value} {x : DataW H × List MemPlace} (h : DataW.trod enc Tryd.prog W 0 (fun _ => true) true fuel 27 v.cells.toList = some x) (hw : ∀ n ∈ x.1.weights Tryd.prog 27, n ≤ reachBytes) : ∃ f : Fu, FnA W v f := by
  obtain ⟨xs, n, hx, hp, hlen, hxl, hf⟩ := DataW.trod_struct Tryd.underlying27 h
  subst hx
  subst hp
  rw [cells_fn] at hlen
  have hv := Gn.agg_of (by omega) hlen
  have hxl : xs.length = 3 := hxl
  generalize v.cells.toList = cs at *
  match cs, hlen, xs, hxl with
  | [c0, c1, c2, c3], _, [x0, x1, x2], _ =>
    have f0 : DataW.trod enc Tryd.prog W 0 (fun _ => true) true n 24 [c0, c1] = some x0 := by
      have : DataW.trod enc Tryd.prog W 0 (fun _ => true) true n 24 (([c0, c1, c2, c3].drop 0).take (Tryd.prog.cellsOf 24)) = some x0 := hf 0 _ rfl
      rw [cells_sig] at this
      exact this
    have f1 : DataW.trod enc Tryd.prog W 0 (fun _ => true) true n 22 [c2] = some x1 := by
      have : DataW.trod enc Tryd.prog W 0 (fun _ => true) true n 22 (([c0, c1, c2, c3].drop 2).take (Tryd.prog.cellsOf 22)) = some x1 := hf 1 _ rfl
      rw [cells_ints] at this
      exact this
    have f2 : DataW.trod enc Tryd.prog W 0 (fun _ => true) true n 25 [c3] = some x2 := by
      have : DataW.trod enc Tryd.prog W 0 (fun _ => true) true n 25 (([c0, c1, c2, c3].drop 3).take (Tryd.prog.cellsOf 25)) = some x2 := hf 2 _ rfl
      rw [cells_inss] at this
      exact this
    have hw' : ∀ (j : Nat) (t : TypeId) (d : DataW H), [(24 : TypeId), 22, 25][j]? = some t → [x0.1, x1.1, x2.1][j]? = some d → ∀ n ∈ d.weights Tryd.prog t, n ≤ reachBytes := fun j t d h1 h2 n hn => hw n (by
      simp only [DataW.weights, Tryd.underlying27]
      exact DataW.weights_mem_each (j := j) h1 h2 n hn)
    obtain ⟨a0, cp0, s, e, i0, b0⟩ := sig_in f0 (hw' 0 _ _ rfl rfl)
    simp only [List.cons.injEq, and_true] at e
    obtain ⟨rfl, rfl⟩ := e
    obtain ⟨a2, cp2, l2, rfl, i2, b2⟩ := ints_in f1 (hw' 1 _ _ rfl rfl)
    obtain ⟨l3, a3, cp3, rfl, i3, o3, b3⟩ := inss_arg (v := c3) (by
      have : ∀ y : DataW H × List MemPlace, DataW.trod enc Tryd.prog W 0 (fun _ => true) true n 25 [c3] = some y → c3.cells.toList = [c3] := fun y hy => by
        rcases Gn.open_sl Tryd.underlying25 hy with rfl | ⟨a, len, cap, _, _, _, _, rfl, _⟩ <;> rfl
      exact this _ f2) (by
      have e : c3.cells.toList = [c3] := by rcases Gn.open_sl Tryd.underlying25 f2 with rfl | ⟨a, len, cap, _, _, _, _, rfl, _⟩ <;> rfl
      rw [e]; exact f2) (hw' 2 _ _ rfl rfl)
    exact ⟨⟨s, l2, l3⟩, a0, a2, a3, cp0, cp2, cp3, hv, i0, i2, i3, b0, b2, b3, o3⟩
/-- A program that comes in. -/
def FmA (W : World) (v : Value) (p : Fm) : Prop := ∃ a4 a5 c4 c5, v = .agg (fmV p a4 a5 c4 c5) ∧ SgL W a4 c4 p.fns ∧ InL W a5 c5 p.vars ∧ p.fns.length ≤ 4398046510976 ∧ p.vars.length ≤ 17592186044416 ∧ ∀ g ∈ p.fns, g.ps.length ≤ 17592186044416
set_option maxRecDepth 20000 in
theorem frame_arg {fuel : Nat} {v : Value} {x : DataW H × List MemPlace} (h : DataW.trod enc Tryd.prog W 0 (fun _ => true) true fuel 30 v.cells.toList = some x) (hw : ∀ n ∈ x.1.weights Tryd.prog 30, n ≤ reachBytes) : ∃ p : Fm, FmA W v p := by
  obtain ⟨xs, n, hx, hp, hlen, hxl, hf⟩ := DataW.trod_struct Tryd.underlying30 h
  subst hx
  subst hp
  rw [cells_fm] at hlen
  have hv := Gn.agg_of (by omega) hlen
  have hxl : xs.length = 2 := hxl
  generalize v.cells.toList = cs at *
  match cs, hlen, xs, hxl with
  | [c0, c1], _, [x0, x1], _ =>
    have f0 : DataW.trod enc Tryd.prog W 0 (fun _ => true) true n 28 [c0] = some x0 := by
      have : DataW.trod enc Tryd.prog W 0 (fun _ => true) true n 28 (([c0, c1].drop 0).take (Tryd.prog.cellsOf 28)) = some x0 := hf 0 _ rfl
      rw [cells_sigs] at this
      exact this
    have f1 : DataW.trod enc Tryd.prog W 0 (fun _ => true) true n 22 [c1] = some x1 := by
      have : DataW.trod enc Tryd.prog W 0 (fun _ => true) true n 22 (([c0, c1].drop 1).take (Tryd.prog.cellsOf 22)) = some x1 := hf 1 _ rfl
      rw [cells_ints] at this
      exact this
    have hw' : ∀ (j : Nat) (t : TypeId) (d : DataW H), [(28 : TypeId), 22][j]? = some t → [x0.1, x1.1][j]? = some d → ∀ n ∈ d.weights Tryd.prog t, n ≤ reachBytes := fun j t d h1 h2 n hn => hw n (by
      simp only [DataW.weights, Tryd.underlying30]
      exact DataW.weights_mem_each (j := j) h1 h2 n hn)
    obtain ⟨a4, cp4, l4, rfl, hr, b4⟩ := Gn.row_w Tryd.underlying28 cells_sig (by decide) bytes_sig (fun (s : Sg) cs => ∃ ao cap, cs = [.slice ao s.ps.length cap, ci s.res] ∧ InL W ao cap s.ps ∧ s.ps.length ≤ 17592186044416) (fun n cs y h1 h2 => by
      obtain ⟨ao, cap, s, rfl, i1, i2⟩ := sig_in h1 h2
      exact ⟨s, ⟨ao, cap, rfl, i1, i2⟩, rfl⟩) f0 (hw' 0 _ _ rfl rfl)
    obtain ⟨a5, cp5, l5, rfl, i5, b5⟩ := ints_in f1 (hw' 1 _ _ rfl rfl)
    obtain ⟨h1, h2, h3, h4⟩ := hr
    refine ⟨⟨l4, l5⟩, a4, a5, cp4, cp5, hv, ⟨h1, h2, h3, ?_⟩, i5, by unfold reachBytes at b4; show l4.length ≤ _; omega, b5, ?_⟩
    · rcases h4 with rfl | ⟨b, off, rfl, hlt, h4⟩
      · exact Or.inl rfl
      · refine Or.inr ⟨b, off, rfl, fun i s hs => ?_⟩
        obtain ⟨cs, ⟨ao, cap, rfl, i1, _⟩, h5⟩ := h4 i s hs
        exact ⟨ao, cap, i1, by have := h5 0 _ rfl; rw [Nat.add_zero] at this; exact this, h5 1 _ rfl⟩
    · intro g hg
      rcases h4 with rfl | ⟨b, off, rfl, hlt, h4⟩
      · simp at hg
      · obtain ⟨k, hk⟩ := List.getElem?_of_mem hg
        obtain ⟨cs, ⟨ao, cap, rfl, _, i2⟩, _⟩ := h4 k g hk
        exact i2
end Go.Proofs.YtphpmaimgndjmaaDoor.Cd
