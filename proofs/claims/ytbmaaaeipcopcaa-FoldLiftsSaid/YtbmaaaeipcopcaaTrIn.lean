/- Modules and expressions that come in: what they hold, and how much it is. -/
import Derived.Test.YtbmaaaeipcopcaaTrM
import Derived.Deep.Slices
import Derived.Deep.Strs
import Derived.ChangeSlices
import Derived.ChangeArms
import Derived.DataReads
namespace Go.Proofs.Ytbmaaaeipcopcaa.In
open Go.RowKit Te Go.WideShapes Go.ChangeShapes Go.ChangeAt Go.Deep
set_option linter.unusedSimpArgs false
set_option linter.unusedVariables false

theorem cells_int : Try.prog.cellsOf 3 = 1 := by kernel_rfl
theorem cells_bool : Try.prog.cellsOf 4 = 1 := by kernel_rfl
theorem cells_str : Try.prog.cellsOf 9 = 1 := by kernel_rfl
theorem cells_val : Try.prog.cellsOf 24 = 2 := by kernel_rfl
theorem cells_u64 : Try.prog.cellsOf 22 = 1 := by kernel_rfl
theorem cells_ex : Try.prog.cellsOf 27 = 7 := by kernel_rfl
theorem cells_exs : Try.prog.cellsOf 25 = 1 := by kernel_rfl
theorem Addr_plain {W : World} {a : Addr} {x : Value} (h : W.cell? (a.add 0) = some x) : a.spot = none := by
  have := World.cell?_spot h
  unfold Addr.add at this
  simpa using this
theorem wf_i64 {n : Int} (h : (Lit.int .i64 n).wf = true) : I64 n := by
  have : -9223372036854775808 ≤ n ∧ n ≤ 9223372036854775807 := by simpa [Lit.wf, IntKind.min, IntKind.max, IntKind.signed, IntKind.bits] using h
  exact this
theorem wf_u64 {n : Int} (h : (Lit.int .u64 n).wf = true) : 0 ≤ n ∧ n < 18446744073709551616 := by
  have : 0 ≤ n ∧ n ≤ 18446744073709551615 := by simpa [Lit.wf, IntKind.min, IntKind.max, IntKind.signed, IntKind.bits] using h
  omega

/-- How much it is. -/
def bkX : Exs → Nat
  | .nil => 1
  | .cons h k r => h.mod.length + h.name.length + bkX k + bkX r
def bkS : Sts → Nat
  | .nil => 1
  | .cons h e b l r => h.name.length + bkX e + bkS b + bkS l + bkS r
variable {H : Type} {enc : TypeId × Value → H} {W : World}
abbrev bulk (x : DataW H × List MemPlace) : Nat := Rows.uptoBulk x.1
theorem bulk_pos (x : DataW H × List MemPlace) : 1 ≤ bulk x := by
  unfold bulk
  cases x.1 with
  | lit l => cases l <;> simp [Rows.uptoBulk]
  | _ => simp [Rows.uptoBulk]
/-- A slice opened. -/
theorem open_sl {t e : TypeId} {fuel : Nat} {c : Value} {x : DataW H × List MemPlace} (ht : Try.prog.underlying t = some (.slice e)) (h : DataW.trod enc Try.prog W 0 (fun _ => true) true fuel t [c] = some x) :
    c = .slice none 0 0 ∨ ∃ (a : Addr) (len cap n : Nat) (el rest : List (DataW H × List MemPlace)), fuel = n + 1 ∧ c = .slice (some a) len cap ∧ len ≤ cap ∧ cap ≤ maxLen ∧ x.1 = .slice (el.map (·.1)) (rest.map (·.1)) ∧ el.length = len ∧
      ∀ i, i < len → ∃ y cs, el[i]? = some y ∧ W.cells? 0 (a.add (i * Try.prog.cellsOf e)) (Try.prog.cellsOf e) = some cs ∧ DataW.trod enc Try.prog W 0 (fun _ => true) true n e cs = some y := by
  rcases DataW.trod_slice ht h with ⟨h0, _⟩ | ⟨a, len, cap, el, rest, n, hn, hcs, rfl, hb, hl, hm, hlen, hel, _, _⟩
  · simp only [List.cons.injEq, and_true] at h0
    exact Or.inl h0
  · simp only [List.cons.injEq, and_true] at hcs
    refine Or.inr ⟨a, len, cap, n, el, rest, hn, hcs, hl, hm, rfl, hlen, fun i hi => ?_⟩
    have key := hel i hi
    rw [List.getElem?_eq_getElem (by omega)] at key
    obtain ⟨cs, h1, h2⟩ := Option.bind_eq_some_iff.1 key
    exact ⟨_, cs, List.getElem?_eq_getElem (by omega), h1, h2⟩
theorem bulk_drop (el : List (DataW H × List MemPlace)) (i : Nat) (y : DataW H × List MemPlace) (h : el[i]? = some y) : Rows.uptoBulkAll ((el.drop i).map (·.1)) = bulk y + Rows.uptoBulkAll ((el.drop (i + 1)).map (·.1)) := by
  have hi : i < el.length := (List.getElem?_eq_some_iff.1 h).1
  have e : el.drop i = y :: el.drop (i + 1) := by
    rw [List.drop_eq_getElem_cons hi]
    congr 1
    rw [List.getElem?_eq_getElem hi] at h
    exact Option.some.inj h
  rw [e]
  simp only [List.map_cons, Rows.uptoBulkAll]
theorem val_in {fuel : Nat} {c0 c1 : Value} {x : DataW H × List MemPlace} (h : DataW.trod enc Try.prog W 0 (fun _ => true) true fuel 24 [c0, c1] = some x) : ∃ t b : Int, c0 = .int .i64 t ∧ c1 = .int .u64 b ∧ I64 t ∧ 0 ≤ b ∧ b < 18446744073709551616 := by
  obtain ⟨xs, n, rfl, rfl, hlen, hxl, hf⟩ := DataW.trod_struct Try.underlying24 h
  have hxl : xs.length = 2 := hxl
  match xs, hxl with
  | [x0, x1], _ =>
    have f0 : DataW.trod enc Try.prog W 0 (fun _ => true) true n 3 [c0] = some x0 := by
      have : DataW.trod enc Try.prog W 0 (fun _ => true) true n 3 (([c0, c1].drop 0).take (Try.prog.cellsOf 3)) = some x0 := hf 0 _ rfl
      rw [cells_int] at this
      exact this
    have f1 : DataW.trod enc Try.prog W 0 (fun _ => true) true n 22 [c1] = some x1 := by
      have : DataW.trod enc Try.prog W 0 (fun _ => true) true n 22 (([c0, c1].drop 1).take (Try.prog.cellsOf 22)) = some x1 := hf 1 _ rfl
      rw [cells_u64] at this
      exact this
    obtain ⟨t, e0, rfl, w0⟩ := DataW.trod_int Try.underlying3 f0
    obtain ⟨b, e1, rfl, w1⟩ := DataW.trod_int Try.underlying22 f1
    exact ⟨t, b, by simpa using e0, by simpa using e1, wf_i64 w0, wf_u64 w1⟩
theorem str_ok {s : ByteArray} (h : s.size ≤ maxLen) : OkN s.data.toList := by
  have : s.data.toList.length ≤ maxLen := by rw [Array.length_toList]; exact h
  unfold maxLen at this
  unfold OkN
  omega
/-- What is known of a slice of expressions of that fuel. -/
def ExsIn (enc : TypeId × Value → H) (W : World) (fuel : Nat) : Prop := ∀ (c : Value) (x : DataW H × List MemPlace), DataW.trod enc Try.prog W 0 (fun _ => true) true fuel 25 [c] = some x →
  ∃ (ao : Option Addr) (cap : Nat) (k : Exs), c = .slice ao k.len cap ∧ ExL W ao cap k ∧ OkX k ∧ bkX k ≤ bulk x
set_option maxRecDepth 20000 in
theorem expr_in {fuel : Nat} (ih : ∀ n, n < fuel → ExsIn enc W n) {cs : List Value} {x : DataW H × List MemPlace} (h : DataW.trod enc Try.prog W 0 (fun _ => true) true fuel 27 cs = some x) :
    ∃ (hh : EH) (ao : Option Addr) (cap : Nat) (k : Exs), cs = exC hh (.slice ao k.len cap) ∧ ExL W ao cap k ∧ OkE hh ∧ OkX k ∧ hh.mod.length + hh.name.length + bkX k ≤ bulk x := by
  obtain ⟨xs, n, rfl, rfl, hlen, hxl, hf⟩ := DataW.trod_struct Try.underlying27 h
  rw [cells_ex] at hlen
  match cs, hlen with
  | [c0, c1, c2, c3, c4, c5, c6], _ =>
    have hxl : xs.length = 6 := hxl
    match xs, hxl with
    | [x0, x1, x2, x3, x4, x5], _ =>
      have f0 : DataW.trod enc Try.prog W 0 (fun _ => true) true n 3 [c0] = some x0 := by
        have : DataW.trod enc Try.prog W 0 (fun _ => true) true n 3 (([c0, c1, c2, c3, c4, c5, c6].drop 0).take (Try.prog.cellsOf 3)) = some x0 := hf 0 _ rfl
        rw [cells_int] at this
        exact this
      have f1 : DataW.trod enc Try.prog W 0 (fun _ => true) true n 3 [c1] = some x1 := by
        have : DataW.trod enc Try.prog W 0 (fun _ => true) true n 3 (([c0, c1, c2, c3, c4, c5, c6].drop 1).take (Try.prog.cellsOf 3)) = some x1 := hf 1 _ rfl
        rw [cells_int] at this
        exact this
      have f2 : DataW.trod enc Try.prog W 0 (fun _ => true) true n 9 [c2] = some x2 := by
        have : DataW.trod enc Try.prog W 0 (fun _ => true) true n 9 (([c0, c1, c2, c3, c4, c5, c6].drop 2).take (Try.prog.cellsOf 9)) = some x2 := hf 2 _ rfl
        rw [cells_str] at this
        exact this
      have f3 : DataW.trod enc Try.prog W 0 (fun _ => true) true n 9 [c3] = some x3 := by
        have : DataW.trod enc Try.prog W 0 (fun _ => true) true n 9 (([c0, c1, c2, c3, c4, c5, c6].drop 3).take (Try.prog.cellsOf 9)) = some x3 := hf 3 _ rfl
        rw [cells_str] at this
        exact this
      have f4 : DataW.trod enc Try.prog W 0 (fun _ => true) true n 24 [c4, c5] = some x4 := by
        have : DataW.trod enc Try.prog W 0 (fun _ => true) true n 24 (([c0, c1, c2, c3, c4, c5, c6].drop 4).take (Try.prog.cellsOf 24)) = some x4 := hf 4 _ rfl
        rw [cells_val] at this
        exact this
      have f5 : DataW.trod enc Try.prog W 0 (fun _ => true) true n 25 [c6] = some x5 := by
        have : DataW.trod enc Try.prog W 0 (fun _ => true) true n 25 (([c0, c1, c2, c3, c4, c5, c6].drop 6).take (Try.prog.cellsOf 25)) = some x5 := hf 5 _ rfl
        rw [cells_exs] at this
        exact this
      obtain ⟨z0, e0, rfl, w0⟩ := DataW.trod_int Try.underlying3 f0
      obtain rfl : c0 = .int .i64 z0 := by simpa using e0
      obtain ⟨z1, e1, rfl, w1⟩ := DataW.trod_int Try.underlying3 f1
      obtain rfl : c1 = .int .i64 z1 := by simpa using e1
      obtain ⟨z2, e2, rfl, w2⟩ := DataW.trod_string Try.underlying9 f2
      obtain rfl : c2 = .string z2 := by simpa using e2
      have y2 : OkN z2.data.toList := str_ok w2
      obtain ⟨z3, e3, rfl, w3⟩ := DataW.trod_string Try.underlying9 f3
      obtain rfl : c3 = .string z3 := by simpa using e3
      have y3 : OkN z3.data.toList := str_ok w3
      obtain ⟨t4, b4, rfl, rfl, v41, v42, v43⟩ := val_in f4
      obtain ⟨ao, cap, k, rfl, hL, hO, hB⟩ := ih n (by omega) _ _ f5
      refine ⟨⟨z0, z1, z2.data.toList, z3.data.toList, t4, b4⟩, ao, cap, k, by simp [exC, ci, ct], hL, ⟨wf_i64 w0, wf_i64 w1, v41, v42, v43, y2, y3⟩, hO, ?_⟩
      simp only [bulk, Rows.uptoBulk, Rows.uptoBulkAll, List.map_cons, List.map_nil] at hB ⊢
      omega
theorem exs_step (fuel : Nat) (ih : ∀ n, n < fuel → ExsIn enc W n) : ExsIn enc W fuel := by
  intro c x h
  rcases open_sl Try.underlying25 h with rfl | ⟨a, len, cap, n, el, rest, hn, rfl, hl, hm, hx, hlen, hel⟩
  · refine ⟨none, 0, .nil, rfl, ⟨by simp [Exs.len], by simp [maxLen], Or.inl rfl⟩, trivial, ?_⟩
    have : 1 ≤ bulk x := bulk_pos _
    simpa [bkX] using this
  · rw [cells_ex] at hel
    have hpl : 0 < len → a.spot = none := by
      intro h0
      obtain ⟨y, cs, _, hc, ht⟩ := hel 0 h0
      obtain ⟨hh, ao, cap', k, rfl, _⟩ := expr_in (fun m hm => ih m (by omega)) ht
      obtain ⟨_, _, hcc⟩ := World.cells?_some hc
      have := hcc 0 (by omega)
      rw [show a.add (0 * 7) = a by simp [Addr.add]] at this
      exact Addr_plain (this.trans rfl)
    have key : ∀ (m i : Nat), i + m = len → ∃ r : Exs, r.len = m ∧ ExA W r a.block (a.off + i * 7) ∧ OkX r ∧ bkX r ≤ Rows.uptoBulkAll ((el.drop i).map (·.1)) + 1 := by
      intro m
      induction m with
      | zero => intro i _; exact ⟨.nil, rfl, trivial, trivial, by simp [bkX]⟩
      | succ m ihm =>
        intro i hi
        obtain ⟨r, r1, r2, r3, r4⟩ := ihm (i + 1) (by omega)
        obtain ⟨y, cs, hy, hc, ht⟩ := hel i (by omega)
        obtain ⟨hh, ao, cap', k, rfl, k1, k2, k3, k4⟩ := expr_in (fun m hm => ih m (by omega)) ht
        obtain ⟨_, _, hcc⟩ := World.cells?_some hc
        have hsp := hpl (by omega)
        refine ⟨.cons hh k r, by simp [Exs.len, r1], ⟨⟨ao, cap', fun j u hu => ?_, k1.1, k1.2.1, k1.2.2⟩, ?_⟩, ⟨k2, k3, r3⟩, ?_⟩
        · have hj : j < 7 := (List.getElem?_eq_some_iff.1 hu).1
          have := hcc j hj
          rw [hu] at this
          obtain ⟨b, off, spot⟩ := a
          simp only at hsp
          subst hsp
          rw [Addr.add_lit, Addr.add_lit] at this
          exact this
        · rw [show a.off + i * 7 + 7 = a.off + (i + 1) * 7 by omega]
          exact r2
        · rw [bulk_drop el i y hy]
          simp only [bkX]
          omega
    obtain ⟨r, r1, r2, r3, r4⟩ := key len 0 (by omega)
    refine ⟨some a, cap, r, by rw [r1], ⟨by rw [r1]; exact hl, hm, ?_⟩, r3, ?_⟩
    · by_cases h0 : len = 0
      · left; rw [r1, h0]
      · right
        have hsp := hpl (by omega)
        obtain ⟨b, off, spot⟩ := a
        simp only at hsp
        subst hsp
        exact ⟨b, off, rfl, by simpa using r2⟩
    · simp only [bulk, hx, Rows.uptoBulk]
      simp only [List.drop_zero] at r4
      omega
theorem exs_in (fuel : Nat) : ExsIn enc W fuel := by
  induction fuel using Nat.strongRecOn with
  | _ fuel ih => exact exs_step fuel ih
theorem str_in {fuel : Nat} {cs : List Value} {x : DataW H × List MemPlace} (h : DataW.trod enc Try.prog W 0 (fun _ => true) true fuel 9 cs = some x) : ∃ pp : Bs, cs = [ct pp] ∧ OkN pp ∧ pp.length + 1 ≤ bulk x := by
  obtain ⟨z0, rfl, rfl, w0⟩ := DataW.trod_string Try.underlying9 h
  exact ⟨z0.data.toList, by simp [ct], str_ok w0, by simp [bulk, Rows.uptoBulk]⟩
def bkD (d : De) : Nat := d.name.length + (d.params.map fun p => p.name.length + 1).sum + bkX d.e + bkS d.body + 1
set_option maxRecDepth 20000 in
theorem ex_in {fuel : Nat} {cs : List Value} {x : DataW H × List MemPlace} (h : DataW.trod enc Try.prog W 0 (fun _ => true) true fuel 27 cs = some x) : ∃ (hh : EH) (k : Exs), ExI W hh k (.agg cs.toArray) ∧ OkE hh ∧ OkX k ∧ hh.mod.length + hh.name.length + bkX k ≤ bulk x := by
  obtain ⟨hh, ao, cap, k, rfl, h1, h2, h3, h4⟩ := expr_in (fun n _ => exs_in n) h
  exact ⟨hh, k, ⟨ao, cap, rfl, h1⟩, h2, h3, h4⟩
theorem ex_arg {fuel : Nat} {v : Value} {x : DataW H × List MemPlace} (h : DataW.trod enc Try.prog W 0 (fun _ => true) true fuel 27 v.cells.toList = some x) : ∃ (hh : EH) (k : Exs), ExI W hh k v ∧ OkE hh ∧ OkX k ∧ hh.mod.length + hh.name.length + bkX k ≤ bulk x := by
  have hl : v.cells.toList.length = 7 := by
    obtain ⟨xs, n, _, _, hlen, _⟩ := DataW.trod_struct Try.underlying27 h
    rw [cells_ex] at hlen
    exact hlen
  have hv : v = .agg v.cells.toList.toArray := by
    cases v with
    | agg cs => simp [Value.cells]
    | _ => simp [Value.cells] at hl
  have := ex_in h
  rw [← hv] at this
  exact this
end Go.Proofs.Ytbmaaaeipcopcaa.In
