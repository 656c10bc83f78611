/- Instructions, rows of instructions, bytes that come in. -/
import Derived.Test.YtnmcehpdiopaiaaGreatDoorGnIn
import Derived.Test.YtnmcehpdiopaiaaGreatDoorCdNAll
import Derived.Test.YtnmcehpdiopaiaaGreatDoorCdT
namespace Go.Proofs.YtnmcehpdiopaiaaGreatDoor.Cd
open Go.RowKit Go.WideShapes Go.ChangeShapes Go.ChangeAt Go.Deep Ty
set_option linter.unusedSimpArgs false
set_option linter.unusedVariables false
variable {H : Type} {enc : TypeId × Value → H} {W : World}

theorem cells_int : Tryz.prog.cellsOf 3 = 1 := by kernel_rfl
theorem cells_u64 : Tryz.prog.cellsOf 60 = 1 := by kernel_rfl
theorem cells_u8 : Tryz.prog.cellsOf 5 = 1 := by kernel_rfl
theorem cells_val : Tryz.prog.cellsOf 62 = 2 := by kernel_rfl
theorem cells_ins : Tryz.prog.cellsOf 84 = 4 := by kernel_rfl
theorem bytes_ins : Tryz.prog.bytesOf 84 = 32 := by kernel_rfl
theorem bytes_u8 : Tryz.prog.bytesOf 5 = 1 := by kernel_rfl
theorem int_in {n : Nat} {c : Value} {x : DataW H × List MemPlace} (h : DataW.trod enc Tryz.prog W 0 (fun _ => true) true n 3 [c] = some x) : ∃ z : Int, c = ci z ∧ Ty.I64 z := by
  obtain ⟨t, e0, rfl, w0⟩ := DataW.trod_int Tryz.underlying3 h
  exact ⟨t, by simpa using e0, Gn.wf_i64 w0⟩
theorem u64_in {n : Nat} {c : Value} {x : DataW H × List MemPlace} (h : DataW.trod enc Tryz.prog W 0 (fun _ => true) true n 60 [c] = some x) : ∃ z : Int, c = .int .u64 z ∧ U64 z := by
  obtain ⟨t, e0, rfl, w0⟩ := DataW.trod_int Tryz.underlying60 h
  exact ⟨t, by simpa using e0, Gn.wf_u64 w0⟩
theorem u8_in {n : Nat} {c : Value} {x : DataW H × List MemPlace} (h : DataW.trod enc Tryz.prog W 0 (fun _ => true) true n 5 [c] = some x) : ∃ z : UInt8, c = .int .u8 (z.toNat : Int) := by
  obtain ⟨t, e0, rfl, w0⟩ := DataW.trod_int Tryz.underlying5 h
  have := Gn.wf_u8 w0
  refine ⟨UInt8.ofNat t.toNat, ?_⟩
  have e : ((UInt8.ofNat t.toNat).toNat : Int) = t := by rw [UInt8.toNat_ofNat']; omega
  rw [e]
  simpa using e0
theorem val_in {fuel : Nat} {c0 c1 : Value} {x : DataW H × List MemPlace} (h : DataW.trod enc Tryz.prog W 0 (fun _ => true) true fuel 62 [c0, c1] = some x) : ∃ t b : Int, c0 = ci t ∧ c1 = .int .u64 b ∧ Ty.I64 t ∧ U64 b := by
  obtain ⟨xs, n, rfl, rfl, hlen, hxl, hf⟩ := DataW.trod_struct Tryz.underlying62 h
  have hxl : xs.length = 2 := hxl
  match xs, hxl with
  | [x0, x1], _ =>
    have f0 : DataW.trod enc Tryz.prog W 0 (fun _ => true) true n 3 [c0] = some x0 := by
      have : DataW.trod enc Tryz.prog W 0 (fun _ => true) true n 3 (([c0, c1].drop 0).take (Tryz.prog.cellsOf 3)) = some x0 := hf 0 _ rfl
      rw [cells_int] at this
      exact this
    have f1 : DataW.trod enc Tryz.prog W 0 (fun _ => true) true n 60 [c1] = some x1 := by
      have : DataW.trod enc Tryz.prog W 0 (fun _ => true) true n 60 (([c0, c1].drop 1).take (Tryz.prog.cellsOf 60)) = some x1 := hf 1 _ rfl
      rw [cells_u64] at this
      exact this
    obtain ⟨t, rfl, ht⟩ := int_in f0
    obtain ⟨b, rfl, hb⟩ := u64_in f1
    exact ⟨t, b, rfl, rfl, ht, hb⟩
set_option maxRecDepth 20000 in
theorem ins_in {fuel : Nat} {cs : List Value} {x : DataW H × List MemPlace} (h : DataW.trod enc Tryz.prog W 0 (fun _ => true) true fuel 84 cs = some x) : ∃ i : In, cs = inC i ∧ OkIn i := by
  obtain ⟨xs, n, rfl, rfl, hlen, hxl, hf⟩ := DataW.trod_struct Tryz.underlying84 h
  rw [cells_ins] at hlen
  have hxl : xs.length = 3 := hxl
  match cs, hlen, xs, hxl with
  | [c0, c1, c2, c3], _, [x0, x1, x2], _ =>
    have f0 : DataW.trod enc Tryz.prog W 0 (fun _ => true) true n 3 [c0] = some x0 := by
      have : DataW.trod enc Tryz.prog W 0 (fun _ => true) true n 3 (([c0, c1, c2, c3].drop 0).take (Tryz.prog.cellsOf 3)) = some x0 := hf 0 _ rfl
      rw [cells_int] at this
      exact this
    have f1 : DataW.trod enc Tryz.prog W 0 (fun _ => true) true n 3 [c1] = some x1 := by
      have : DataW.trod enc Tryz.prog W 0 (fun _ => true) true n 3 (([c0, c1, c2, c3].drop 1).take (Tryz.prog.cellsOf 3)) = some x1 := hf 1 _ rfl
      rw [cells_int] at this
      exact this
    have f2 : DataW.trod enc Tryz.prog W 0 (fun _ => true) true n 62 [c2, c3] = some x2 := by
      have : DataW.trod enc Tryz.prog W 0 (fun _ => true) true n 62 (([c0, c1, c2, c3].drop 2).take (Tryz.prog.cellsOf 62)) = some x2 := hf 2 _ rfl
      rw [cells_val] at this
      exact this
    obtain ⟨op, rfl, h0⟩ := int_in f0
    obtain ⟨nn, rfl, h1⟩ := int_in f1
    obtain ⟨t, b, rfl, rfl, h2, h3⟩ := val_in f2
    exact ⟨⟨op, nn, t, b⟩, rfl, ⟨h0, h1, h2, h3⟩⟩
/-- An instruction that comes in. -/
def InA (W : World) (v : Value) (i : In) : Prop := v = inV i ∧ OkIn i
theorem ins_arg {fuel : Nat} {v : Value} {x : DataW H × List MemPlace} (h : DataW.trod enc Tryz.prog W 0 (fun _ => true) true fuel 84 v.cells.toList = some x) (hw : ∀ n ∈ x.1.weights Tryz.prog 84, n ≤ reachBytes) : ∃ i : In, InA W v i := by
  have hl : v.cells.toList.length = 4 := by
    obtain ⟨xs, n, _, _, hlen, _⟩ := DataW.trod_struct Tryz.underlying84 h
    rw [cells_ins] at hlen
    exact hlen
  have hv := Gn.agg_of (by omega) hl
  obtain ⟨i, h1, h2⟩ := ins_in h
  exact ⟨i, by rw [hv, h1]; rfl, h2⟩
theorem RowIn.il {ao : Option Addr} {cap : Nat} {l : List In} (h : Gn.RowIn W 4 (fun (i : In) cs => cs = inC i ∧ OkIn i) ao cap l) : IL W ao cap l ∧ ∀ i ∈ l, OkIn i := by
  obtain ⟨h1, h2, h3, h4⟩ := h
  rcases h4 with rfl | ⟨b, off, rfl, hlt, h4⟩
  · exact ⟨⟨h1, h2, h3, Or.inl rfl⟩, by simp⟩
  · refine ⟨⟨h1, h2, h3, Or.inr ⟨b, off, rfl, fun i x hx j u hu => ?_⟩⟩, fun i hi => ?_⟩
    · obtain ⟨cs, ⟨rfl, _⟩, h5⟩ := h4 i x hx
      exact h5 j u hu
    · obtain ⟨k, hk⟩ := List.getElem?_of_mem hi
      obtain ⟨cs, ⟨_, ho⟩, _⟩ := h4 k i hk
      exact ho
/-- A row of instructions that comes in. -/
def InsA (W : World) (v : Value) (l : List In) : Prop := ∃ ao cap, v = .slice ao l.length cap ∧ IL W ao cap l ∧ (∀ i ∈ l, OkIn i) ∧ l.length ≤ 4398046510976
theorem inss_arg {fuel : Nat} {v : Value} {x : DataW H × List MemPlace} (hx : v.cells.toList = [v]) (h : DataW.trod enc Tryz.prog W 0 (fun _ => true) true fuel 25 v.cells.toList = some x) (hw : ∀ n ∈ x.1.weights Tryz.prog 25, n ≤ reachBytes) : ∃ l : List In, InsA W v l := by
  rw [hx] at h
  obtain ⟨ao, cap, l, rfl, hr, hs⟩ := Gn.row_w Tryz.underlying25 cells_ins (by decide) bytes_ins (fun (i : In) cs => cs = inC i ∧ OkIn i) (fun n cs y h1 _ => by
    obtain ⟨i, rfl, hi⟩ := ins_in h1
    exact ⟨i, ⟨rfl, hi⟩, rfl⟩) h hw
  obtain ⟨h1, h2⟩ := RowIn.il hr
  refine ⟨l, ao, cap, rfl, h1, h2, ?_⟩
  unfold reachBytes at hs
  omega
theorem ones_sum : ∀ l : List In, (l.map fun _ => 1).sum = l.length
  | [] => rfl
  | a :: l => by
    have := ones_sum l
    simp only [List.map_cons, List.sum_cons, List.length_cons, this]; omega
/-- .. where its bulk alone is bounded. -/
def bkIs (l : List In) : Nat := l.length
def InsU (W : World) (v : Value) (l : List In) : Prop := ∃ ao cap, v = .slice ao l.length cap ∧ IL W ao cap l ∧ ∀ i ∈ l, OkIn i
theorem inss_argU {fuel : Nat} {v : Value} {x : DataW H × List MemPlace} (hx : v.cells.toList = [v]) (h : DataW.trod enc Tryz.prog W 0 (fun _ => true) true fuel 25 v.cells.toList = some x) : ∃ l : List In, InsU W v l ∧ bkIs l ≤ Gn.bulk x := by
  rw [hx] at h
  obtain ⟨ao, cap, l, rfl, hr, hs⟩ := Gn.row_b (fun _ : In => 1) Tryz.underlying25 cells_ins (by decide) (fun (i : In) cs => cs = inC i ∧ OkIn i) (fun n cs y h1 => by
    obtain ⟨i, rfl, hi⟩ := ins_in h1
    exact ⟨i, ⟨rfl, hi⟩, rfl, Gn.bulk_pos y⟩) h
  obtain ⟨h1, h2⟩ := RowIn.il hr
  refine ⟨l, ⟨ao, cap, rfl, h1, h2⟩, ?_⟩
  have e := ones_sum l
  unfold bkIs
  omega
/-- Bytes that come in. -/
def BytA (W : World) (v : Value) (l : Bs) : Prop := ∃ ao cap, v = .slice ao l.length cap ∧ BL W ao cap l ∧ l.length ≤ 140737488351232
theorem bytes_arg {fuel : Nat} {v : Value} {x : DataW H × List MemPlace} (hx : v.cells.toList = [v]) (h : DataW.trod enc Tryz.prog W 0 (fun _ => true) true fuel 65 v.cells.toList = some x) (hw : ∀ n ∈ x.1.weights Tryz.prog 65, n ≤ reachBytes) : ∃ l : Bs, BytA W v l := by
  rw [hx] at h
  obtain ⟨ao, cap, l, rfl, ⟨h1, h2, h3, h4⟩, hs⟩ := Gn.row_w Tryz.underlying65 cells_u8 (by decide) bytes_u8 (fun (c : UInt8) cs => cs = [.int .u8 (c.toNat : Int)]) (fun n cs y h1 _ => by
    have hl : cs.length = 1 := by
      obtain ⟨t, e0, _⟩ := DataW.trod_int Tryz.underlying5 h1
      rw [e0]; rfl
    match cs, hl with
    | [c], _ =>
      obtain ⟨z, rfl⟩ := u8_in h1
      exact ⟨z, rfl, rfl⟩) h hw
  refine ⟨l, ao, cap, rfl, ⟨h1, h2, h3, ?_⟩, by unfold reachBytes at hs; omega⟩
  rcases h4 with h4 | ⟨b, off, rfl, hlt, h4⟩
  · exact Or.inl h4
  · refine Or.inr ⟨b, off, rfl, fun i c hc => ?_⟩
    obtain ⟨cs, rfl, h5⟩ := h4 i c hc
    have := h5 0 _ rfl
    simpa using this
end Go.Proofs.YtnmcehpdiopaiaaGreatDoor.Cd
