/- Values, items, interfaces that come in: what they hold, and how much it is. -/
import Derived.Test.YtbmaaaeipcopcaaTyM
import Derived.Deep.Slices
import Derived.Deep.Strs
import Derived.ChangeSlices
import Derived.ChangeArms
import Derived.DataReads
import Derived.SizedLaws
namespace Go.Proofs.Ytbmaaaeipcopcaa.Ty
open Go.RowKit Go.WideShapes Go.ChangeShapes Go.ChangeAt Go.Deep
set_option linter.unusedSimpArgs false
set_option linter.unusedVariables false

theorem cells_int : Try.prog.cellsOf 3 = 1 := by kernel_rfl
theorem cells_str : Try.prog.cellsOf 9 = 1 := by kernel_rfl
theorem cells_u64 : Try.prog.cellsOf 22 = 1 := by kernel_rfl
theorem cells_val : Try.prog.cellsOf 24 = 2 := by kernel_rfl
theorem Addr_plain {W : World} {a : Addr} {x : Value} (h : W.cell? (a.add 0) = some x) : a.spot = none := by
  have := World.cell?_spot h
  unfold Addr.add at this
  simpa using this
theorem wf_i64 {n : Int} (h : (Lit.int .i64 n).wf = true) : I64 n := by
  have : -9223372036854775808 ≤ n ∧ n ≤ 9223372036854775807 := by simpa [Lit.wf, IntKind.min, IntKind.max, IntKind.signed, IntKind.bits] using h
  exact this
theorem wf_u64 {n : Int} (h : (Lit.int .u64 n).wf = true) : 0 ≤ n ∧ n < 18446744073709551616 := by
  have : 0 ≤ n ∧ n ≤ 18446744073709551615 := by simpa [Lit.wf, IntKind.min, IntKind.max, IntKind.signed, IntKind.bits] using h
  omega
variable {H : Type} {enc : TypeId × Value → H} {W : World}
abbrev bulk (x : DataW H × List MemPlace) : Nat := Rows.uptoBulk x.1
theorem bulk_pos (x : DataW H × List MemPlace) : 1 ≤ bulk x := by
  unfold bulk
  cases x.1 with
  | lit l => cases l <;> simp [Rows.uptoBulk]
  | _ => simp [Rows.uptoBulk]
/-- A slice opened. -/
theorem open_sl {t e : TypeId} {fuel : Nat} {c : Value} {x : DataW H × List MemPlace} (ht : Try.prog.underlying t = some (.slice e)) (h : DataW.trod enc Try.prog W 0 (fun _ => true) true fuel t [c] = some x) :
    c = .slice none 0 0 ∨ ∃ (a : Addr) (len cap n : Nat) (el rest : List (DataW H × List MemPlace)), fuel = n + 1 ∧ c = .slice (some a) len cap ∧ len ≤ cap ∧ cap ≤ maxLen ∧ x.1 = .slice (el.map (·.1)) (rest.map (·.1)) ∧ el.length = len ∧
      ∀ i, i < len → ∃ y cs, el[i]? = some y ∧ W.cells? 0 (a.add (i * Try.prog.cellsOf e)) (Try.prog.cellsOf e) = some cs ∧ DataW.trod enc Try.prog W 0 (fun _ => true) true n e cs = some y := by
  rcases DataW.trod_slice ht h with ⟨h0, _⟩ | ⟨a, len, cap, el, rest, n, hn, hcs, rfl, hb, hl, hm, hlen, hel, _, _⟩
  · simp only [List.cons.injEq, and_true] at h0
    exact Or.inl h0
  · simp only [List.cons.injEq, and_true] at hcs
    refine Or.inr ⟨a, len, cap, n, el, rest, hn, hcs, hl, hm, rfl, hlen, fun i hi => ?_⟩
    have key := hel i hi
    rw [List.getElem?_eq_getElem (by omega)] at key
    obtain ⟨cs, h1, h2⟩ := Option.bind_eq_some_iff.1 key
    exact ⟨_, cs, List.getElem?_eq_getElem (by omega), h1, h2⟩
theorem bulk_drop (el : List (DataW H × List MemPlace)) (i : Nat) (y : DataW H × List MemPlace) (h : el[i]? = some y) : Rows.uptoBulkAll ((el.drop i).map (·.1)) = bulk y + Rows.uptoBulkAll ((el.drop (i + 1)).map (·.1)) := by
  have hi : i < el.length := (List.getElem?_eq_some_iff.1 h).1
  have e : el.drop i = y :: el.drop (i + 1) := by
    rw [List.drop_eq_getElem_cons hi]
    congr 1
    rw [List.getElem?_eq_getElem hi] at h
    exact Option.some.inj h
  rw [e]
  simp only [List.map_cons, Rows.uptoBulkAll]
theorem str_ok {s : ByteArray} (h : s.size ≤ maxLen) : OkN s.data.toList := by
  have : s.data.toList.length ≤ maxLen := by rw [Array.length_toList]; exact h
  unfold maxLen at this
  unfold OkN
  omega
set_option maxRecDepth 20000 in
theorem val_in {fuel : Nat} {c0 c1 : Value} {x : DataW H × List MemPlace} (h : DataW.trod enc Try.prog W 0 (fun _ => true) true fuel 24 [c0, c1] = some x) : ∃ t b : Int, c0 = ci t ∧ c1 = .int .u64 b ∧ I64 t ∧ U64 b := by
  obtain ⟨xs, n, rfl, rfl, hlen, hxl, hf⟩ := DataW.trod_struct Try.underlying24 h
  have hxl : xs.length = 2 := hxl
  match xs, hxl with
  | [x0, x1], _ =>
    have f0 : DataW.trod enc Try.prog W 0 (fun _ => true) true n 3 [c0] = some x0 := by
      have : DataW.trod enc Try.prog W 0 (fun _ => true) true n 3 (([c0, c1].drop 0).take (Try.prog.cellsOf 3)) = some x0 := hf 0 _ rfl
      rw [cells_int] at this
      exact this
    have f1 : DataW.trod enc Try.prog W 0 (fun _ => true) true n 22 [c1] = some x1 := by
      have : DataW.trod enc Try.prog W 0 (fun _ => true) true n 22 (([c0, c1].drop 1).take (Try.prog.cellsOf 22)) = some x1 := hf 1 _ rfl
      rw [cells_u64] at this
      exact this
    obtain ⟨t, e0, rfl, w0⟩ := DataW.trod_int Try.underlying3 f0
    obtain ⟨b, e1, rfl, w1⟩ := DataW.trod_int Try.underlying22 f1
    exact ⟨t, b, by simpa using e0, by simpa using e1, wf_i64 w0, wf_u64 w1⟩
theorem agg_of {v : Value} {n : Nat} (hn : n ≠ 1) (hl : v.cells.toList.length = n) : v = .agg v.cells.toList.toArray := by
  cases v with
  | agg cs => simp [Value.cells]
  | _ => simp [Value.cells] at hl; omega
theorem val_arg {fuel : Nat} {v : Value} {x : DataW H × List MemPlace} (h : DataW.trod enc Try.prog W 0 (fun _ => true) true fuel 24 v.cells.toList = some x) : ∃ t b : Int, v = .agg #[ci t, .int .u64 b] ∧ I64 t ∧ U64 b := by
  have hl : v.cells.toList.length = 2 := by
    obtain ⟨xs, n, _, _, hlen, _⟩ := DataW.trod_struct Try.underlying24 h
    rw [cells_val] at hlen
    exact hlen
  have hv := agg_of (by omega) hl
  revert h
  generalize hc : v.cells.toList = cs at *
  match cs, hl with
  | [c0, c1], _ =>
    intro h
    obtain ⟨t, b, rfl, rfl, h1, h2⟩ := val_in h
    exact ⟨t, b, hv, h1, h2⟩
def bkI (i : It) : Nat := i.name.length + i.params.length + 1
end Go.Proofs.Ytbmaaaeipcopcaa.Ty
