/- Values, items, interfaces that come in: what they hold, and how much it is. -/
import Derived.Test.YtakkiipkmogagaaGreatTyAll
import Derived.Deep.Slices
import Derived.Deep.Strs
import Derived.ChangeSlices
import Derived.ChangeArms
import Derived.DataReads
import Derived.SizedLaws
namespace Go.Proofs.YtakkiipkmogagaaGreat.Ty
open Go.RowKit Go.WideShapes Go.ChangeShapes Go.ChangeAt Go.Deep
set_option linter.unusedSimpArgs false
set_option linter.unusedVariables false

theorem cells_int : Tryz.prog.cellsOf 3 = 1 := by kernel_rfl
theorem cells_str : Tryz.prog.cellsOf 9 = 1 := by kernel_rfl
theorem cells_u64 : Tryz.prog.cellsOf 44 = 1 := by kernel_rfl
theorem cells_ints : Tryz.prog.cellsOf 45 = 1 := by kernel_rfl
theorem cells_val : Tryz.prog.cellsOf 52 = 2 := by kernel_rfl
theorem cells_item : Tryz.prog.cellsOf 47 = 5 := by kernel_rfl
theorem Addr_plain {W : World} {a : Addr} {x : Value} (h : W.cell? (a.add 0) = some x) : a.spot = none := by
  have := World.cell?_spot h
  unfold Addr.add at this
  simpa using this
theorem wf_i64 {n : Int} (h : (Lit.int .i64 n).wf = true) : I64 n := by
  have : -9223372036854775808 ≤ n ∧ n ≤ 9223372036854775807 := by simpa [Lit.wf, IntKind.min, IntKind.max, IntKind.signed, IntKind.bits] using h
  exact this
theorem wf_u64 {n : Int} (h : (Lit.int .u64 n).wf = true) : 0 ≤ n ∧ n < 18446744073709551616 := by
  have : 0 ≤ n ∧ n ≤ 18446744073709551615 := by simpa [Lit.wf, IntKind.min, IntKind.max, IntKind.signed, IntKind.bits] using h
  omega
variable {H : Type} {enc : TypeId × Value → H} {W : World}
abbrev bulk (x : DataW H × List MemPlace) : Nat := Rows.uptoBulk x.1
theorem bulk_pos (x : DataW H × List MemPlace) : 1 ≤ bulk x := by
  unfold bulk
  cases x.1 with
  | lit l => cases l <;> simp [Rows.uptoBulk]
  | _ => simp [Rows.uptoBulk]
/-- A slice opened. -/
theorem open_sl {t e : TypeId} {fuel : Nat} {c : Value} {x : DataW H × List MemPlace} (ht : Tryz.prog.underlying t = some (.slice e)) (h : DataW.trod enc Tryz.prog W 0 (fun _ => true) true fuel t [c] = some x) :
    c = .slice none 0 0 ∨ ∃ (a : Addr) (len cap n : Nat) (el rest : List (DataW H × List MemPlace)), fuel = n + 1 ∧ c = .slice (some a) len cap ∧ len ≤ cap ∧ cap ≤ maxLen ∧ x.1 = .slice (el.map (·.1)) (rest.map (·.1)) ∧ el.length = len ∧
      ∀ i, i < len → ∃ y cs, el[i]? = some y ∧ W.cells? 0 (a.add (i * Tryz.prog.cellsOf e)) (Tryz.prog.cellsOf e) = some cs ∧ DataW.trod enc Tryz.prog W 0 (fun _ => true) true n e cs = some y := by
  rcases DataW.trod_slice ht h with ⟨h0, _⟩ | ⟨a, len, cap, el, rest, n, hn, hcs, rfl, hb, hl, hm, hlen, hel, _, _⟩
  · simp only [List.cons.injEq, and_true] at h0
    exact Or.inl h0
  · simp only [List.cons.injEq, and_true] at hcs
    refine Or.inr ⟨a, len, cap, n, el, rest, hn, hcs, hl, hm, rfl, hlen, fun i hi => ?_⟩
    have key := hel i hi
    rw [List.getElem?_eq_getElem (by omega)] at key
    obtain ⟨cs, h1, h2⟩ := Option.bind_eq_some_iff.1 key
    exact ⟨_, cs, List.getElem?_eq_getElem (by omega), h1, h2⟩
theorem bulk_drop (el : List (DataW H × List MemPlace)) (i : Nat) (y : DataW H × List MemPlace) (h : el[i]? = some y) : Rows.uptoBulkAll ((el.drop i).map (·.1)) = bulk y + Rows.uptoBulkAll ((el.drop (i + 1)).map (·.1)) := by
  have hi : i < el.length := (List.getElem?_eq_some_iff.1 h).1
  have e : el.drop i = y :: el.drop (i + 1) := by
    rw [List.drop_eq_getElem_cons hi]
    congr 1
    rw [List.getElem?_eq_getElem hi] at h
    exact Option.some.inj h
  rw [e]
  simp only [List.map_cons, Rows.uptoBulkAll]
theorem str_ok {s : ByteArray} (h : s.size ≤ maxLen) : OkN s.data.toList := by
  have : s.data.toList.length ≤ maxLen := by rw [Array.length_toList]; exact h
  unfold maxLen at this
  unfold OkN
  omega
set_option maxRecDepth 20000 in
theorem val_in {fuel : Nat} {c0 c1 : Value} {x : DataW H × List MemPlace} (h : DataW.trod enc Tryz.prog W 0 (fun _ => true) true fuel 52 [c0, c1] = some x) : ∃ t b : Int, c0 = ci t ∧ c1 = .int .u64 b ∧ I64 t ∧ U64 b := by
  obtain ⟨xs, n, rfl, rfl, hlen, hxl, hf⟩ := DataW.trod_struct Tryz.underlying52 h
  have hxl : xs.length = 2 := hxl
  match xs, hxl with
  | [x0, x1], _ =>
    have f0 : DataW.trod enc Tryz.prog W 0 (fun _ => true) true n 3 [c0] = some x0 := by
      have : DataW.trod enc Tryz.prog W 0 (fun _ => true) true n 3 (([c0, c1].drop 0).take (Tryz.prog.cellsOf 3)) = some x0 := hf 0 _ rfl
      rw [cells_int] at this
      exact this
    have f1 : DataW.trod enc Tryz.prog W 0 (fun _ => true) true n 44 [c1] = some x1 := by
      have : DataW.trod enc Tryz.prog W 0 (fun _ => true) true n 44 (([c0, c1].drop 1).take (Tryz.prog.cellsOf 44)) = some x1 := hf 1 _ rfl
      rw [cells_u64] at this
      exact this
    obtain ⟨t, e0, rfl, w0⟩ := DataW.trod_int Tryz.underlying3 f0
    obtain ⟨b, e1, rfl, w1⟩ := DataW.trod_int Tryz.underlying44 f1
    exact ⟨t, b, by simpa using e0, by simpa using e1, wf_i64 w0, wf_u64 w1⟩
theorem agg_of {v : Value} {n : Nat} (hn : n ≠ 1) (hl : v.cells.toList.length = n) : v = .agg v.cells.toList.toArray := by
  cases v with
  | agg cs => simp [Value.cells]
  | _ => simp [Value.cells] at hl; omega
theorem val_arg {fuel : Nat} {v : Value} {x : DataW H × List MemPlace} (h : DataW.trod enc Tryz.prog W 0 (fun _ => true) true fuel 52 v.cells.toList = some x) : ∃ t b : Int, v = .agg #[ci t, .int .u64 b] ∧ I64 t ∧ U64 b := by
  have hl : v.cells.toList.length = 2 := by
    obtain ⟨xs, n, _, _, hlen, _⟩ := DataW.trod_struct Tryz.underlying52 h
    rw [cells_val] at hlen
    exact hlen
  have hv := agg_of (by omega) hl
  revert h
  generalize hc : v.cells.toList = cs at *
  match cs, hl with
  | [c0, c1], _ =>
    intro h
    obtain ⟨t, b, rfl, rfl, h1, h2⟩ := val_in h
    exact ⟨t, b, hv, h1, h2⟩
theorem ints_in {fuel : Nat} {c : Value} {x : DataW H × List MemPlace} (h : DataW.trod enc Tryz.prog W 0 (fun _ => true) true fuel 45 [c] = some x) :
    ∃ (ao : Option Addr) (cap : Nat) (l : List Int), c = .slice ao l.length cap ∧ InL W ao cap l ∧ (∀ p ∈ l, I64 p) ∧ l.length + 1 ≤ bulk x := by
  rcases open_sl Tryz.underlying45 h with rfl | ⟨a, len, cap, n, el, rest, hn, rfl, hl, hm, hx, hlen, hel⟩
  · exact ⟨none, 0, [], rfl, ⟨by simp, by simp [maxLen], fun _ => rfl, Or.inl rfl⟩, by simp, bulk_pos _⟩
  · rw [cells_int] at hel
    have hpl : 0 < len → a.spot = none := by
      intro h0
      obtain ⟨y, cs, _, hc, ht⟩ := hel 0 h0
      obtain ⟨z, e0, _, _⟩ := DataW.trod_int Tryz.underlying3 ht
      subst e0
      obtain ⟨_, _, hcc⟩ := World.cells?_some hc
      have := hcc 0 (by omega)
      rw [show a.add (0 * 1) = a by simp [Addr.add]] at this
      exact Addr_plain (this.trans rfl)
    have key : ∀ (m i : Nat), i + m = len → ∃ r : List Int, r.length = m ∧ (∀ (j : Nat) (p : Int), r[j]? = some p → a.spot = none ∧ W.cell? ⟨a.block, a.off + (i + j), none⟩ = some (ci p)) ∧ (∀ p ∈ r, I64 p) ∧ r.length ≤ Rows.uptoBulkAll ((el.drop i).map (·.1)) := by
      intro m
      induction m with
      | zero => intro i _; exact ⟨[], rfl, by simp, by simp, by simp⟩
      | succ m ihm =>
        intro i hi
        obtain ⟨r, r1, r2, r3, r4⟩ := ihm (i + 1) (by omega)
        obtain ⟨y, cs, hy, hc, ht⟩ := hel i (by omega)
        obtain ⟨hcl, _, hcc⟩ := World.cells?_some hc
        obtain ⟨z, e0, rfl, w0⟩ := DataW.trod_int Tryz.underlying3 ht
        subst e0
        have h0 := hcc 0 (by omega)
        have hsp : a.spot = none := hpl (by omega)
        refine ⟨z :: r, by simp [r1], fun j p hj => ⟨hsp, ?_⟩, ?_, ?_⟩
        · cases j with
          | zero =>
            obtain rfl : z = p := by simpa using hj
            obtain ⟨b, off, spot⟩ := a
            simp only at hsp
            subst hsp
            rw [Addr.add_lit, Addr.add_lit] at h0
            simpa using h0
          | succ j =>
            have := (r2 j p (by simpa using hj)).2
            rw [show i + 1 + j = i + (j + 1) by omega] at this
            exact this
        · intro p hp
          rcases List.mem_cons.1 hp with rfl | hp
          · exact wf_i64 w0
          · exact r3 p hp
        · rw [bulk_drop el i _ hy]
          simp only [List.length_cons]
          have hb : 1 ≤ bulk (H := H) (DataW.lit (.int .i64 z), []) := bulk_pos _
          omega
    obtain ⟨r, r1, r2, r3, r4⟩ := key len 0 (by omega)
    refine ⟨some a, cap, r, by rw [r1], ⟨by rw [r1]; exact hl, hm, (fun h => by cases h), ?_⟩, r3, ?_⟩
    · cases r with
      | nil => exact Or.inl rfl
      | cons z r' =>
        right
        have hsp := (r2 0 z rfl).1
        obtain ⟨b, off, spot⟩ := a
        simp only at hsp
        subst hsp
        refine ⟨b, off, rfl, fun i p hp => ?_⟩
        have := (r2 i p hp).2
        simpa using this
    · simp only [bulk, hx, Rows.uptoBulk]
      simp only [List.drop_zero] at r4
      omega
def bkI (i : It) : Nat := i.name.length + i.params.length + 1
set_option maxRecDepth 20000 in
theorem item_in {fuel : Nat} {cs : List Value} {x : DataW H × List MemPlace} (h : DataW.trod enc Tryz.prog W 0 (fun _ => true) true fuel 47 cs = some x) : ∃ (i : It) (ao : Option Addr) (cap : Nat), cs = itC i (.slice ao i.params.length cap) ∧ InL W ao cap i.params ∧ OkI i ∧ bkI i + 4 ≤ bulk x := by
  obtain ⟨xs, n, rfl, rfl, hlen, hxl, hf⟩ := DataW.trod_struct Tryz.underlying47 h
  rw [cells_item] at hlen
  have hxl : xs.length = 5 := hxl
  match cs, hlen, xs, hxl with
  | [c0, c1, c2, c3, c4], _, [x0, x1, x2, x3, x4], _ =>
    have f0 : DataW.trod enc Tryz.prog W 0 (fun _ => true) true n 3 [c0] = some x0 := by
      have : DataW.trod enc Tryz.prog W 0 (fun _ => true) true n 3 (([c0, c1, c2, c3, c4].drop 0).take (Tryz.prog.cellsOf 3)) = some x0 := hf 0 _ rfl
      rw [cells_int] at this
      exact this
    have f1 : DataW.trod enc Tryz.prog W 0 (fun _ => true) true n 9 [c1] = some x1 := by
      have : DataW.trod enc Tryz.prog W 0 (fun _ => true) true n 9 (([c0, c1, c2, c3, c4].drop 1).take (Tryz.prog.cellsOf 9)) = some x1 := hf 1 _ rfl
      rw [cells_str] at this
      exact this
    have f2 : DataW.trod enc Tryz.prog W 0 (fun _ => true) true n 3 [c2] = some x2 := by
      have : DataW.trod enc Tryz.prog W 0 (fun _ => true) true n 3 (([c0, c1, c2, c3, c4].drop 2).take (Tryz.prog.cellsOf 3)) = some x2 := hf 2 _ rfl
      rw [cells_int] at this
      exact this
    have f3 : DataW.trod enc Tryz.prog W 0 (fun _ => true) true n 44 [c3] = some x3 := by
      have : DataW.trod enc Tryz.prog W 0 (fun _ => true) true n 44 (([c0, c1, c2, c3, c4].drop 3).take (Tryz.prog.cellsOf 44)) = some x3 := hf 3 _ rfl
      rw [cells_u64] at this
      exact this
    have f4 : DataW.trod enc Tryz.prog W 0 (fun _ => true) true n 45 [c4] = some x4 := by
      have : DataW.trod enc Tryz.prog W 0 (fun _ => true) true n 45 (([c0, c1, c2, c3, c4].drop 4).take (Tryz.prog.cellsOf 45)) = some x4 := hf 4 _ rfl
      rw [cells_ints] at this
      exact this
    obtain ⟨z0, e0, rfl, w0⟩ := DataW.trod_int Tryz.underlying3 f0
    obtain rfl : c0 = .int .i64 z0 := by simpa using e0
    obtain ⟨z1, e1, rfl, w1⟩ := DataW.trod_string Tryz.underlying9 f1
    obtain rfl : c1 = .string z1 := by simpa using e1
    have y1 : OkN z1.data.toList := str_ok w1
    obtain ⟨z2, e2, rfl, w2⟩ := DataW.trod_int Tryz.underlying3 f2
    obtain rfl : c2 = .int .i64 z2 := by simpa using e2
    obtain ⟨z3, e3, rfl, w3⟩ := DataW.trod_int Tryz.underlying44 f3
    obtain rfl : c3 = .int .u64 z3 := by simpa using e3
    obtain ⟨ao, cap, l, rfl, a1, a2, a3⟩ := ints_in f4
    refine ⟨⟨z0, z1.data.toList, z2, z3, l⟩, ao, cap, by simp [itC, ci, ct], a1, ⟨wf_i64 w0, y1, wf_i64 w2, wf_u64 w3, a2, ?_⟩, ?_⟩
    · have := a1.1; have := a1.2.1; unfold maxLen at this; show l.length ≤ _; omega
    · unfold bkI
      simp only [bulk, Rows.uptoBulk, Rows.uptoBulkAll, List.map_cons, List.map_nil] at a3 ⊢
      omega
theorem item_arg {fuel : Nat} {v : Value} {x : DataW H × List MemPlace} (h : DataW.trod enc Tryz.prog W 0 (fun _ => true) true fuel 47 v.cells.toList = some x) : ∃ i : It, ItI W i v ∧ OkI i ∧ bkI i + 4 ≤ bulk x := by
  have hl : v.cells.toList.length = 5 := by
    obtain ⟨xs, n, _, _, hlen, _⟩ := DataW.trod_struct Tryz.underlying47 h
    rw [cells_item] at hlen
    exact hlen
  have hv := agg_of (by omega) hl
  obtain ⟨i, ao, cap, h1, h2, h3, h4⟩ := item_in h
  refine ⟨i, ⟨ao, cap, ?_, h2⟩, h3, h4⟩
  rw [hv, h1]
  rfl
theorem items_in {fuel : Nat} {c : Value} {x : DataW H × List MemPlace} (h : DataW.trod enc Tryz.prog W 0 (fun _ => true) true fuel 23 [c] = some x) :
    ∃ (ao : Option Addr) (cap : Nat) (l : List It), c = .slice ao l.length cap ∧ ItL W ao cap l ∧ (∀ p ∈ l, OkI p) ∧ (l.map bkI).sum + 1 ≤ bulk x := by
  rcases open_sl Tryz.underlying23 h with rfl | ⟨a, len, cap, n, el, rest, hn, rfl, hl, hm, hx, hlen, hel⟩
  · exact ⟨none, 0, [], rfl, ⟨by simp, by simp [maxLen], fun _ => rfl, Or.inl rfl⟩, by simp, by simpa using bulk_pos x⟩
  · rw [cells_item] at hel
    have hpl : 0 < len → a.spot = none := by
      intro h0
      obtain ⟨y, cs, _, hc, ht⟩ := hel 0 h0
      obtain ⟨i, ao', cap', rfl, _⟩ := item_in ht
      obtain ⟨_, _, hcc⟩ := World.cells?_some hc
      have := hcc 0 (by omega)
      rw [show a.add (0 * 5) = a by simp [Addr.add]] at this
      exact Addr_plain (this.trans rfl)
    have key : ∀ (m i : Nat), i + m = len → ∃ r : List It, r.length = m ∧ (∀ (j : Nat) (p : It), r[j]? = some p → ∃ ap cp, InL W ap cp p.params ∧ ∀ (j2 : Nat) (u : Value), (itC p (.slice ap p.params.length cp))[j2]? = some u → W.cell? ⟨a.block, a.off + (i + j) * 5 + j2, none⟩ = some u) ∧ (∀ p ∈ r, OkI p) ∧ (r.map bkI).sum ≤ Rows.uptoBulkAll ((el.drop i).map (·.1)) := by
      intro m
      induction m with
      | zero => intro i _; exact ⟨[], rfl, by simp, by simp, by simp⟩
      | succ m ihm =>
        intro i hi
        obtain ⟨r, r1, r2, r3, r4⟩ := ihm (i + 1) (by omega)
        obtain ⟨y, cs, hy, hc, ht⟩ := hel i (by omega)
        obtain ⟨pp, ap, cp, rfl, q0, q1, q3⟩ := item_in ht
        obtain ⟨_, _, hcc⟩ := World.cells?_some hc
        have hsp := hpl (by omega)
        refine ⟨pp :: r, by simp [r1], fun j p hj => ?_, ?_, ?_⟩
        · cases j with
          | zero =>
            obtain rfl : pp = p := by simpa using hj
            refine ⟨ap, cp, q0, fun j u hu => ?_⟩
            have hj : j < 5 := (List.getElem?_eq_some_iff.1 hu).1
            have := hcc j hj
            rw [hu] at this
            obtain ⟨b, off, spot⟩ := a
            simp only at hsp
            subst hsp
            rw [Addr.add_lit, Addr.add_lit] at this
            rw [show i + 0 = i by omega]
            exact this
          | succ j =>
            have := r2 j p (by simpa using hj)
            rw [show i + 1 + j = i + (j + 1) by omega] at this
            exact this
        · intro p hp
          rcases List.mem_cons.1 hp with rfl | hp
          · exact q1
          · exact r3 p hp
        · rw [bulk_drop el i y hy]
          simp only [List.map_cons, List.sum_cons]
          omega
    obtain ⟨r, r1, r2, r3, r4⟩ := key len 0 (by omega)
    refine ⟨some a, cap, r, by rw [r1], ⟨by rw [r1]; exact hl, hm, (fun h => by cases h), ?_⟩, r3, ?_⟩
    · by_cases h0 : len = 0
      · left; exact List.eq_nil_of_length_eq_zero (by rw [r1, h0])
      · right
        have hsp := hpl (by omega)
        obtain ⟨b, off, spot⟩ := a
        simp only at hsp
        subst hsp
        refine ⟨b, off, rfl, fun i p hp => ?_⟩
        obtain ⟨ap, cp, h1, h2⟩ := r2 i p hp
        exact ⟨ap, cp, h1, fun j u hu => by have := h2 j u hu; simpa using this⟩
    · simp only [bulk, hx, Rows.uptoBulk]
      simp only [List.drop_zero] at r4
      omega
end Go.Proofs.YtakkiipkmogagaaGreat.Ty
