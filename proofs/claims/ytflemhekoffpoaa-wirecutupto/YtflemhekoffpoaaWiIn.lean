/- A value that comes in, and a list of them: what is read, and how much it is. -/
import Derived.Test.YtflemhekoffpoaaWiWrite
import Derived.Deep.Slices
import Derived.Deep.Strs
import Derived.ChangeSlices
import Derived.ChangeArms
import Derived.DataReads
namespace Go.Proofs.Ytflemhekoffpoaa
open Go.RowKit Go.WideShapes Go.ChangeShapes Go.ChangeAt Go.Deep
set_option linter.unusedSimpArgs false
set_option linter.unusedVariables false

theorem Try.cells_int : Try.prog.cellsOf 3 = 1 := by kernel_rfl
theorem Try.cells_str : Try.prog.cellsOf 9 = 1 := by kernel_rfl
theorem Try.cells_op : Try.prog.cellsOf 32 = 7 := by kernel_rfl
theorem Try.cells_u64 : Try.prog.cellsOf 28 = 1 := by kernel_rfl
theorem Try.cells_ints : Try.prog.cellsOf 29 = 1 := by kernel_rfl
theorem Try.cells_strs : Try.prog.cellsOf 30 = 1 := by kernel_rfl

theorem wf_i64 {n : Int} (h : (Lit.int .i64 n).wf = true) : -9223372036854775808 ≤ n ∧ n ≤ 9223372036854775807 := by
  simpa [Lit.wf, IntKind.min, IntKind.max, IntKind.signed, IntKind.bits] using h
theorem wf_u64 {n : Int} (h : (Lit.int .u64 n).wf = true) : 0 ≤ n ∧ n ≤ 18446744073709551615 := by
  simpa [Lit.wf, IntKind.min, IntKind.max, IntKind.signed, IntKind.bits] using h

theorem bulk_lits {H : Type} (k : IntKind) (l : List Int) : Rows.uptoBulkAll (lits (H := H) k l) = l.length := by
  induction l with
  | nil => rfl
  | cons x r ih =>
    simp only [lits, List.map_cons, Rows.uptoBulkAll, Rows.uptoBulk, List.length_cons] at ih ⊢
    omega

theorem Addr_plain {W : World} {a : Addr} {x : Value} (h : W.cell? (a.add 0) = some x) : a.spot = none := by
  have := World.cell?_spot h
  unfold Addr.add at this
  simpa using this

variable {H : Type} {enc : TypeId × Value → H} {W : World}

theorem ints_in {fuel : Nat} {c : Value} {x : DataW H × List MemPlace} (h : DataW.trod enc Try.prog W 0 (fun _ => true) true fuel 29 [c] = some x) :
    ∃ l : List Int, Sl W c (l.map fun x => .int .i64 x) ∧ l.length < Rows.uptoBulk x.1 ∧ l.length ≤ maxLen := by
  rcases open_ints Try.underlying29 Try.underlying3 Try.cells_int h with ⟨hcs, rfl⟩ | ⟨a, len, cap, zs, hcs, _, hl, hm, hz, rfl, hcell, hwz⟩
  · simp only [List.cons.injEq, and_true] at hcs
    subst hcs
    exact ⟨[], Sl.nil W, by simp [Rows.uptoBulk], by simp⟩
  · simp only [List.cons.injEq, and_true] at hcs
    subst hcs
    simp only [if_true] at hz
    have hll : (zs.take len).length = len := by rw [List.length_take]; omega
    refine ⟨zs.take len, ⟨some a, cap, by rw [List.length_map, hll], by rw [List.length_map, hll]; exact hl, hm, (fun h => by cases h), ?_⟩, ?_, by rw [hll]; omega⟩
    · by_cases h0 : len = 0
      · left; rw [h0]; rfl
      · right
        have hsp := Addr_plain (hcell 0 (by omega))
        obtain ⟨b, off, spot⟩ := a
        simp only at hsp
        subst hsp
        refine ⟨b, off, rfl, fun i y hy => ?_⟩
        rw [List.getElem?_map, List.getElem?_take] at hy
        split at hy
        · have hi : i < zs.length := by omega
          rw [List.getElem?_eq_getElem hi] at hy
          simp only [Option.map_some, Option.some.injEq] at hy
          have := hcell i hi
          rw [Addr.add_lit, List.getD_eq_getElem?_getD, List.getElem?_eq_getElem hi] at this
          rw [this, ← hy]
          rfl
        · cases hy
    · simp only [Rows.uptoBulk, bulk_lits, hll]
      omega

theorem bulk_strs (n : Nat) (Sx : Nat → ByteArray) : Rows.uptoBulkAll ((List.range n).map fun i => (DataW.lit (.string (Sx i).data.toList) : DataW H)) = ((List.range n).map fun i => (Sx i).data.toList.length + 1).sum := by
  generalize List.range n = r
  induction r with
  | nil => rfl
  | cons x r ih => simp only [List.map_cons, Rows.uptoBulkAll, Rows.uptoBulk, ih, List.sum_cons]

theorem strs_in {fuel : Nat} {c : Value} {x : DataW H × List MemPlace} (h : DataW.trod enc Try.prog W 0 (fun _ => true) true fuel 30 [c] = some x) :
    ∃ t : List (List UInt8), Sl W c (t.map sv) ∧ (t.map fun s => s.length + 1).sum < Rows.uptoBulk x.1 ∧ t.length ≤ maxLen ∧ ∀ s ∈ t, s.length ≤ maxLen := by
  rcases open_strs Try.underlying30 Try.underlying9 Try.cells_str h with ⟨hcs, rfl⟩ | ⟨a, len, cap, m, Sx, hcs, _, hl, hm, hz, rfl, hcell⟩
  · simp only [List.cons.injEq, and_true] at hcs
    subst hcs
    exact ⟨[], Sl.nil W, by simp [Rows.uptoBulk], by simp, by simp⟩
  · simp only [List.cons.injEq, and_true] at hcs
    subst hcs
    simp only [if_true] at hz
    refine ⟨(List.range len).map fun i => (Sx i).data.toList, ⟨some a, cap, by simp, by simp; exact hl, hm, (fun h => by cases h), ?_⟩, ?_, by simp; omega, ?_⟩
    · by_cases h0 : len = 0
      · left; rw [h0]; rfl
      · right
        have hsp := Addr_plain (hcell 0 (by omega)).1
        obtain ⟨b, off, spot⟩ := a
        simp only at hsp
        subst hsp
        refine ⟨b, off, rfl, fun i y hy => ?_⟩
        simp only [List.map_map, List.getElem?_map] at hy
        by_cases hi : i < len
        · rw [List.getElem?_range hi] at hy
          simp only [Option.map_some, Option.some.injEq, Function.comp, sv] at hy
          have := (hcell i (by omega)).1
          rw [Addr.add_lit] at this
          rw [this, ← hy]
        · rw [List.getElem?_eq_none (by simp; omega)] at hy
          cases hy
    · simp only [Rows.uptoBulk, List.map_map]
      have := bulk_strs (H := H) len Sx
      simp only [Function.comp_def]
      omega
    · intro s hs
      simp only [List.mem_map, List.mem_range] at hs
      obtain ⟨i, hi, rfl⟩ := hs
      have := (hcell i (by omega)).2
      rw [Array.length_toList]
      exact this

theorem op_in {fuel : Nat} {cs : List Value} {x : DataW H × List MemPlace} (h : DataW.trod enc Try.prog W 0 (fun _ => true) true fuel 32 cs = some x) :
    ∃ (o : OpD) (lv tv : Value), cs = [.int .i64 o.k, .int .u64 (o.N : Int), .string ⟨o.s.toArray⟩, lv, tv, .int .i64 o.mo, .int .i64 o.lo] ∧ OpIs W (.agg cs.toArray) o lv tv ∧ 8 + o.s.length + o.l.length + (o.t.map fun s => s.length + 1).sum ≤ Rows.uptoBulk x.1 := by
  obtain ⟨xs, n, rfl, rfl, hlen, hxl, hf⟩ := DataW.trod_struct Try.underlying32 h
  rw [Try.cells_op] at hlen
  match cs, hlen with
  | [c0, c1, c2, c3, c4, c5, c6], _ =>
    have hxl : xs.length = 7 := hxl
    match xs, hxl with
    | [x0, x1, x2, x3, x4, x5, x6], _ =>
      have f0 : DataW.trod enc Try.prog W 0 (fun _ => true) true n 3 [c0] = some x0 := by
        have : DataW.trod enc Try.prog W 0 (fun _ => true) true n 3 (([c0, c1, c2, c3, c4, c5, c6].drop 0).take (Try.prog.cellsOf 3)) = some x0 := hf 0 _ rfl
        rw [Try.cells_int] at this
        exact this
      have f1 : DataW.trod enc Try.prog W 0 (fun _ => true) true n 28 [c1] = some x1 := by
        have : DataW.trod enc Try.prog W 0 (fun _ => true) true n 28 (([c0, c1, c2, c3, c4, c5, c6].drop 1).take (Try.prog.cellsOf 28)) = some x1 := hf 1 _ rfl
        rw [Try.cells_u64] at this
        exact this
      have f2 : DataW.trod enc Try.prog W 0 (fun _ => true) true n 9 [c2] = some x2 := by
        have : DataW.trod enc Try.prog W 0 (fun _ => true) true n 9 (([c0, c1, c2, c3, c4, c5, c6].drop 2).take (Try.prog.cellsOf 9)) = some x2 := hf 2 _ rfl
        rw [Try.cells_str] at this
        exact this
      have f3 : DataW.trod enc Try.prog W 0 (fun _ => true) true n 29 [c3] = some x3 := by
        have : DataW.trod enc Try.prog W 0 (fun _ => true) true n 29 (([c0, c1, c2, c3, c4, c5, c6].drop 3).take (Try.prog.cellsOf 29)) = some x3 := hf 3 _ rfl
        rw [Try.cells_ints] at this
        exact this
      have f4 : DataW.trod enc Try.prog W 0 (fun _ => true) true n 30 [c4] = some x4 := by
        have : DataW.trod enc Try.prog W 0 (fun _ => true) true n 30 (([c0, c1, c2, c3, c4, c5, c6].drop 4).take (Try.prog.cellsOf 30)) = some x4 := hf 4 _ rfl
        rw [Try.cells_strs] at this
        exact this
      have f5 : DataW.trod enc Try.prog W 0 (fun _ => true) true n 3 [c5] = some x5 := by
        have : DataW.trod enc Try.prog W 0 (fun _ => true) true n 3 (([c0, c1, c2, c3, c4, c5, c6].drop 5).take (Try.prog.cellsOf 3)) = some x5 := hf 5 _ rfl
        rw [Try.cells_int] at this
        exact this
      have f6 : DataW.trod enc Try.prog W 0 (fun _ => true) true n 3 [c6] = some x6 := by
        have : DataW.trod enc Try.prog W 0 (fun _ => true) true n 3 (([c0, c1, c2, c3, c4, c5, c6].drop 6).take (Try.prog.cellsOf 3)) = some x6 := hf 6 _ rfl
        rw [Try.cells_int] at this
        exact this
      obtain ⟨k, e0, rfl, w0⟩ := DataW.trod_int Try.underlying3 f0
      obtain ⟨N, e1, rfl, w1⟩ := DataW.trod_int Try.underlying28 f1
      obtain ⟨s, e2, rfl, w2⟩ := DataW.trod_string Try.underlying9 f2
      obtain ⟨l, hl, bl, ml⟩ := ints_in f3
      obtain ⟨t, ht, bt, mt, mts⟩ := strs_in f4
      obtain ⟨mo, e5, rfl, w5⟩ := DataW.trod_int Try.underlying3 f5
      obtain ⟨lo, e6, rfl, w6⟩ := DataW.trod_int Try.underlying3 f6
      obtain rfl : c0 = .int .i64 k := by simpa using e0
      obtain rfl : c1 = .int .u64 N := by simpa using e1
      obtain rfl : c2 = .string s := by simpa using e2
      obtain rfl : c5 = .int .i64 mo := by simpa using e5
      obtain rfl : c6 = .int .i64 lo := by simpa using e6
      have hN := wf_u64 w1
      obtain ⟨N', rfl⟩ := Int.eq_ofNat_of_zero_le hN.1
      have hss : (⟨s.data.toList.toArray⟩ : ByteArray) = s := by simp
      refine ⟨⟨k, N', s.data.toList, l, t, mo, lo⟩, c3, c4, by simp, ⟨by simp [opv], hl, ht, ⟨by simp only; omega, ?_, ?_, ?_, ?_, wf_i64 w0, wf_i64 w5, wf_i64 w6⟩⟩, ?_⟩
      · have : s.size ≤ 9223372036854775807 := w2
        show s.data.toList.length ≤ _
        rw [Array.length_toList]
        exact this
      · exact ml
      · exact mt
      · exact mts
      · simp only [Rows.uptoBulk, Rows.uptoBulkAll, List.map_cons, List.map_nil]
        omega
end Go.Proofs.Ytflemhekoffpoaa
