/- Modules and expressions that come in: what they hold, and how much it is. -/
import Derived.Test.YtpjahcncknccdaaGreatTrM
import Derived.Deep.Slices
import Derived.Deep.Strs
import Derived.ChangeSlices
import Derived.ChangeArms
import Derived.DataReads
namespace Go.Proofs.YtpjahcncknccdaaGreat.In
open Go.RowKit Te Go.WideShapes Go.ChangeShapes Go.ChangeAt Go.Deep
set_option linter.unusedSimpArgs false
set_option linter.unusedVariables false

theorem cells_int : Tryz.prog.cellsOf 3 = 1 := by kernel_rfl
theorem cells_bool : Tryz.prog.cellsOf 4 = 1 := by kernel_rfl
theorem cells_str : Tryz.prog.cellsOf 9 = 1 := by kernel_rfl
theorem cells_val : Tryz.prog.cellsOf 54 = 2 := by kernel_rfl
theorem cells_u64 : Tryz.prog.cellsOf 52 = 1 := by kernel_rfl
theorem cells_ex : Tryz.prog.cellsOf 56 = 7 := by kernel_rfl
theorem cells_exs : Tryz.prog.cellsOf 46 = 1 := by kernel_rfl
theorem cells_st : Tryz.prog.cellsOf 199 = 5 := by kernel_rfl
theorem cells_sts : Tryz.prog.cellsOf 47 = 1 := by kernel_rfl
theorem cells_pa : Tryz.prog.cellsOf 159 = 2 := by kernel_rfl
theorem cells_pas : Tryz.prog.cellsOf 45 = 1 := by kernel_rfl
theorem cells_de : Tryz.prog.cellsOf 49 = 7 := by kernel_rfl
theorem cells_des : Tryz.prog.cellsOf 37 = 1 := by kernel_rfl
theorem cells_strs : Tryz.prog.cellsOf 36 = 1 := by kernel_rfl
theorem cells_mo : Tryz.prog.cellsOf 39 = 3 := by kernel_rfl
theorem Addr_plain {W : World} {a : Addr} {x : Value} (h : W.cell? (a.add 0) = some x) : a.spot = none := by
  have := World.cell?_spot h
  unfold Addr.add at this
  simpa using this
theorem wf_i64 {n : Int} (h : (Lit.int .i64 n).wf = true) : I64 n := by
  have : -9223372036854775808 ≤ n ∧ n ≤ 9223372036854775807 := by simpa [Lit.wf, IntKind.min, IntKind.max, IntKind.signed, IntKind.bits] using h
  exact this
theorem wf_u64 {n : Int} (h : (Lit.int .u64 n).wf = true) : 0 ≤ n ∧ n < 18446744073709551616 := by
  have : 0 ≤ n ∧ n ≤ 18446744073709551615 := by simpa [Lit.wf, IntKind.min, IntKind.max, IntKind.signed, IntKind.bits] using h
  omega

/-- How much it is. -/
def bkX : Exs → Nat
  | .nil => 1
  | .cons h k r => h.mod.length + h.name.length + bkX k + bkX r
def bkS : Sts → Nat
  | .nil => 1
  | .cons h e b l r => h.name.length + bkX e + bkS b + bkS l + bkS r
variable {H : Type} {enc : TypeId × Value → H} {W : World}
abbrev bulk (x : DataW H × List MemPlace) : Nat := Rows.uptoBulk x.1
theorem bulk_pos (x : DataW H × List MemPlace) : 1 ≤ bulk x := by
  unfold bulk
  cases x.1 with
  | lit l => cases l <;> simp [Rows.uptoBulk]
  | _ => simp [Rows.uptoBulk]
/-- A slice opened. -/
theorem open_sl {t e : TypeId} {fuel : Nat} {c : Value} {x : DataW H × List MemPlace} (ht : Tryz.prog.underlying t = some (.slice e)) (h : DataW.trod enc Tryz.prog W 0 (fun _ => true) true fuel t [c] = some x) :
    c = .slice none 0 0 ∨ ∃ (a : Addr) (len cap n : Nat) (el rest : List (DataW H × List MemPlace)), fuel = n + 1 ∧ c = .slice (some a) len cap ∧ len ≤ cap ∧ cap ≤ maxLen ∧ x.1 = .slice (el.map (·.1)) (rest.map (·.1)) ∧ el.length = len ∧
      ∀ i, i < len → ∃ y cs, el[i]? = some y ∧ W.cells? 0 (a.add (i * Tryz.prog.cellsOf e)) (Tryz.prog.cellsOf e) = some cs ∧ DataW.trod enc Tryz.prog W 0 (fun _ => true) true n e cs = some y := by
  rcases DataW.trod_slice ht h with ⟨h0, _⟩ | ⟨a, len, cap, el, rest, n, hn, hcs, rfl, hb, hl, hm, hlen, hel, _, _⟩
  · simp only [List.cons.injEq, and_true] at h0
    exact Or.inl h0
  · simp only [List.cons.injEq, and_true] at hcs
    refine Or.inr ⟨a, len, cap, n, el, rest, hn, hcs, hl, hm, rfl, hlen, fun i hi => ?_⟩
    have key := hel i hi
    rw [List.getElem?_eq_getElem (by omega)] at key
    obtain ⟨cs, h1, h2⟩ := Option.bind_eq_some_iff.1 key
    exact ⟨_, cs, List.getElem?_eq_getElem (by omega), h1, h2⟩
theorem bulk_drop (el : List (DataW H × List MemPlace)) (i : Nat) (y : DataW H × List MemPlace) (h : el[i]? = some y) : Rows.uptoBulkAll ((el.drop i).map (·.1)) = bulk y + Rows.uptoBulkAll ((el.drop (i + 1)).map (·.1)) := by
  have hi : i < el.length := (List.getElem?_eq_some_iff.1 h).1
  have e : el.drop i = y :: el.drop (i + 1) := by
    rw [List.drop_eq_getElem_cons hi]
    congr 1
    rw [List.getElem?_eq_getElem hi] at h
    exact Option.some.inj h
  rw [e]
  simp only [List.map_cons, Rows.uptoBulkAll]
theorem val_in {fuel : Nat} {c0 c1 : Value} {x : DataW H × List MemPlace} (h : DataW.trod enc Tryz.prog W 0 (fun _ => true) true fuel 54 [c0, c1] = some x) : ∃ t b : Int, c0 = .int .i64 t ∧ c1 = .int .u64 b ∧ I64 t ∧ 0 ≤ b ∧ b < 18446744073709551616 := by
  obtain ⟨xs, n, rfl, rfl, hlen, hxl, hf⟩ := DataW.trod_struct Tryz.underlying54 h
  have hxl : xs.length = 2 := hxl
  match xs, hxl with
  | [x0, x1], _ =>
    have f0 : DataW.trod enc Tryz.prog W 0 (fun _ => true) true n 3 [c0] = some x0 := by
      have : DataW.trod enc Tryz.prog W 0 (fun _ => true) true n 3 (([c0, c1].drop 0).take (Tryz.prog.cellsOf 3)) = some x0 := hf 0 _ rfl
      rw [cells_int] at this
      exact this
    have f1 : DataW.trod enc Tryz.prog W 0 (fun _ => true) true n 52 [c1] = some x1 := by
      have : DataW.trod enc Tryz.prog W 0 (fun _ => true) true n 52 (([c0, c1].drop 1).take (Tryz.prog.cellsOf 52)) = some x1 := hf 1 _ rfl
      rw [cells_u64] at this
      exact this
    obtain ⟨t, e0, rfl, w0⟩ := DataW.trod_int Tryz.underlying3 f0
    obtain ⟨b, e1, rfl, w1⟩ := DataW.trod_int Tryz.underlying52 f1
    exact ⟨t, b, by simpa using e0, by simpa using e1, wf_i64 w0, wf_u64 w1⟩
theorem str_ok {s : ByteArray} (h : s.size ≤ maxLen) : OkN s.data.toList := by
  have : s.data.toList.length ≤ maxLen := by rw [Array.length_toList]; exact h
  unfold maxLen at this
  unfold OkN
  omega
/-- What is known of a slice of expressions of that fuel. -/
def ExsIn (enc : TypeId × Value → H) (W : World) (fuel : Nat) : Prop := ∀ (c : Value) (x : DataW H × List MemPlace), DataW.trod enc Tryz.prog W 0 (fun _ => true) true fuel 46 [c] = some x →
  ∃ (ao : Option Addr) (cap : Nat) (k : Exs), c = .slice ao k.len cap ∧ ExL W ao cap k ∧ OkX k ∧ bkX k ≤ bulk x
set_option maxRecDepth 20000 in
theorem expr_in {fuel : Nat} (ih : ∀ n, n < fuel → ExsIn enc W n) {cs : List Value} {x : DataW H × List MemPlace} (h : DataW.trod enc Tryz.prog W 0 (fun _ => true) true fuel 56 cs = some x) :
    ∃ (hh : EH) (ao : Option Addr) (cap : Nat) (k : Exs), cs = exC hh (.slice ao k.len cap) ∧ ExL W ao cap k ∧ OkE hh ∧ OkX k ∧ hh.mod.length + hh.name.length + bkX k ≤ bulk x := by
  obtain ⟨xs, n, rfl, rfl, hlen, hxl, hf⟩ := DataW.trod_struct Tryz.underlying56 h
  rw [cells_ex] at hlen
  match cs, hlen with
  | [c0, c1, c2, c3, c4, c5, c6], _ =>
    have hxl : xs.length = 6 := hxl
    match xs, hxl with
    | [x0, x1, x2, x3, x4, x5], _ =>
      have f0 : DataW.trod enc Tryz.prog W 0 (fun _ => true) true n 3 [c0] = some x0 := by
        have : DataW.trod enc Tryz.prog W 0 (fun _ => true) true n 3 (([c0, c1, c2, c3, c4, c5, c6].drop 0).take (Tryz.prog.cellsOf 3)) = some x0 := hf 0 _ rfl
        rw [cells_int] at this
        exact this
      have f1 : DataW.trod enc Tryz.prog W 0 (fun _ => true) true n 3 [c1] = some x1 := by
        have : DataW.trod enc Tryz.prog W 0 (fun _ => true) true n 3 (([c0, c1, c2, c3, c4, c5, c6].drop 1).take (Tryz.prog.cellsOf 3)) = some x1 := hf 1 _ rfl
        rw [cells_int] at this
        exact this
      have f2 : DataW.trod enc Tryz.prog W 0 (fun _ => true) true n 9 [c2] = some x2 := by
        have : DataW.trod enc Tryz.prog W 0 (fun _ => true) true n 9 (([c0, c1, c2, c3, c4, c5, c6].drop 2).take (Tryz.prog.cellsOf 9)) = some x2 := hf 2 _ rfl
        rw [cells_str] at this
        exact this
      have f3 : DataW.trod enc Tryz.prog W 0 (fun _ => true) true n 9 [c3] = some x3 := by
        have : DataW.trod enc Tryz.prog W 0 (fun _ => true) true n 9 (([c0, c1, c2, c3, c4, c5, c6].drop 3).take (Tryz.prog.cellsOf 9)) = some x3 := hf 3 _ rfl
        rw [cells_str] at this
        exact this
      have f4 : DataW.trod enc Tryz.prog W 0 (fun _ => true) true n 54 [c4, c5] = some x4 := by
        have : DataW.trod enc Tryz.prog W 0 (fun _ => true) true n 54 (([c0, c1, c2, c3, c4, c5, c6].drop 4).take (Tryz.prog.cellsOf 54)) = some x4 := hf 4 _ rfl
        rw [cells_val] at this
        exact this
      have f5 : DataW.trod enc Tryz.prog W 0 (fun _ => true) true n 46 [c6] = some x5 := by
        have : DataW.trod enc Tryz.prog W 0 (fun _ => true) true n 46 (([c0, c1, c2, c3, c4, c5, c6].drop 6).take (Tryz.prog.cellsOf 46)) = some x5 := hf 5 _ rfl
        rw [cells_exs] at this
        exact this
      obtain ⟨z0, e0, rfl, w0⟩ := DataW.trod_int Tryz.underlying3 f0
      obtain rfl : c0 = .int .i64 z0 := by simpa using e0
      obtain ⟨z1, e1, rfl, w1⟩ := DataW.trod_int Tryz.underlying3 f1
      obtain rfl : c1 = .int .i64 z1 := by simpa using e1
      obtain ⟨z2, e2, rfl, w2⟩ := DataW.trod_string Tryz.underlying9 f2
      obtain rfl : c2 = .string z2 := by simpa using e2
      have y2 : OkN z2.data.toList := str_ok w2
      obtain ⟨z3, e3, rfl, w3⟩ := DataW.trod_string Tryz.underlying9 f3
      obtain rfl : c3 = .string z3 := by simpa using e3
      have y3 : OkN z3.data.toList := str_ok w3
      obtain ⟨t4, b4, rfl, rfl, v41, v42, v43⟩ := val_in f4
      obtain ⟨ao, cap, k, rfl, hL, hO, hB⟩ := ih n (by omega) _ _ f5
      refine ⟨⟨z0, z1, z2.data.toList, z3.data.toList, t4, b4⟩, ao, cap, k, by simp [exC, ci, ct], hL, ⟨wf_i64 w0, wf_i64 w1, v41, v42, v43, y2, y3⟩, hO, ?_⟩
      simp only [bulk, Rows.uptoBulk, Rows.uptoBulkAll, List.map_cons, List.map_nil] at hB ⊢
      omega
theorem exs_step (fuel : Nat) (ih : ∀ n, n < fuel → ExsIn enc W n) : ExsIn enc W fuel := by
  intro c x h
  rcases open_sl Tryz.underlying46 h with rfl | ⟨a, len, cap, n, el, rest, hn, rfl, hl, hm, hx, hlen, hel⟩
  · refine ⟨none, 0, .nil, rfl, ⟨by simp [Exs.len], by simp [maxLen], Or.inl rfl⟩, trivial, ?_⟩
    have : 1 ≤ bulk x := bulk_pos _
    simpa [bkX] using this
  · rw [cells_ex] at hel
    have hpl : 0 < len → a.spot = none := by
      intro h0
      obtain ⟨y, cs, _, hc, ht⟩ := hel 0 h0
      obtain ⟨hh, ao, cap', k, rfl, _⟩ := expr_in (fun m hm => ih m (by omega)) ht
      obtain ⟨_, _, hcc⟩ := World.cells?_some hc
      have := hcc 0 (by omega)
      rw [show a.add (0 * 7) = a by simp [Addr.add]] at this
      exact Addr_plain (this.trans rfl)
    have key : ∀ (m i : Nat), i + m = len → ∃ r : Exs, r.len = m ∧ ExA W r a.block (a.off + i * 7) ∧ OkX r ∧ bkX r ≤ Rows.uptoBulkAll ((el.drop i).map (·.1)) + 1 := by
      intro m
      induction m with
      | zero => intro i _; exact ⟨.nil, rfl, trivial, trivial, by simp [bkX]⟩
      | succ m ihm =>
        intro i hi
        obtain ⟨r, r1, r2, r3, r4⟩ := ihm (i + 1) (by omega)
        obtain ⟨y, cs, hy, hc, ht⟩ := hel i (by omega)
        obtain ⟨hh, ao, cap', k, rfl, k1, k2, k3, k4⟩ := expr_in (fun m hm => ih m (by omega)) ht
        obtain ⟨_, _, hcc⟩ := World.cells?_some hc
        have hsp := hpl (by omega)
        refine ⟨.cons hh k r, by simp [Exs.len, r1], ⟨⟨ao, cap', fun j u hu => ?_, k1.1, k1.2.1, k1.2.2⟩, ?_⟩, ⟨k2, k3, r3⟩, ?_⟩
        · have hj : j < 7 := (List.getElem?_eq_some_iff.1 hu).1
          have := hcc j hj
          rw [hu] at this
          obtain ⟨b, off, spot⟩ := a
          simp only at hsp
          subst hsp
          rw [Addr.add_lit, Addr.add_lit] at this
          exact this
        · rw [show a.off + i * 7 + 7 = a.off + (i + 1) * 7 by omega]
          exact r2
        · rw [bulk_drop el i y hy]
          simp only [bkX]
          omega
    obtain ⟨r, r1, r2, r3, r4⟩ := key len 0 (by omega)
    refine ⟨some a, cap, r, by rw [r1], ⟨by rw [r1]; exact hl, hm, ?_⟩, r3, ?_⟩
    · by_cases h0 : len = 0
      · left; rw [r1, h0]
      · right
        have hsp := hpl (by omega)
        obtain ⟨b, off, spot⟩ := a
        simp only at hsp
        subst hsp
        exact ⟨b, off, rfl, by simpa using r2⟩
    · simp only [bulk, hx, Rows.uptoBulk]
      simp only [List.drop_zero] at r4
      omega
theorem exs_in (fuel : Nat) : ExsIn enc W fuel := by
  induction fuel using Nat.strongRecOn with
  | _ fuel ih => exact exs_step fuel ih
def StsIn (enc : TypeId × Value → H) (W : World) (fuel : Nat) : Prop := ∀ (c : Value) (x : DataW H × List MemPlace), DataW.trod enc Tryz.prog W 0 (fun _ => true) true fuel 47 [c] = some x →
  ∃ (ao : Option Addr) (cap : Nat) (k : Sts), c = .slice ao k.len cap ∧ StL W ao cap k ∧ OkS k ∧ bkS k ≤ bulk x
set_option maxRecDepth 20000 in
theorem stmt_in {fuel : Nat} (ih : ∀ n, n < fuel → StsIn enc W n) {cs : List Value} {x : DataW H × List MemPlace} (h : DataW.trod enc Tryz.prog W 0 (fun _ => true) true fuel 199 cs = some x) :
    ∃ (hh : SH) (ao1 : Option Addr) (cap1 : Nat) (e : Exs) (ao2 : Option Addr) (cap2 : Nat) (b : Sts) (ao3 : Option Addr) (cap3 : Nat) (l : Sts), cs = stC hh (.slice ao1 e.len cap1) (.slice ao2 b.len cap2) (.slice ao3 l.len cap3) ∧ ExL W ao1 cap1 e ∧ StL W ao2 cap2 b ∧ StL W ao3 cap3 l ∧
      I64 hh.kind ∧ OkN hh.name ∧ OkX e ∧ OkS b ∧ OkS l ∧ hh.name.length + bkX e + bkS b + bkS l ≤ bulk x := by
  obtain ⟨xs, n, rfl, rfl, hlen, hxl, hf⟩ := DataW.trod_struct Tryz.underlying199 h
  rw [cells_st] at hlen
  match cs, hlen with
  | [c0, c1, c2, c3, c4], _ =>
    have hxl : xs.length = 5 := hxl
    match xs, hxl with
    | [x0, x1, x2, x3, x4], _ =>
      have f0 : DataW.trod enc Tryz.prog W 0 (fun _ => true) true n 3 [c0] = some x0 := by
        have : DataW.trod enc Tryz.prog W 0 (fun _ => true) true n 3 (([c0, c1, c2, c3, c4].drop 0).take (Tryz.prog.cellsOf 3)) = some x0 := hf 0 _ rfl
        rw [cells_int] at this
        exact this
      have f1 : DataW.trod enc Tryz.prog W 0 (fun _ => true) true n 9 [c1] = some x1 := by
        have : DataW.trod enc Tryz.prog W 0 (fun _ => true) true n 9 (([c0, c1, c2, c3, c4].drop 1).take (Tryz.prog.cellsOf 9)) = some x1 := hf 1 _ rfl
        rw [cells_str] at this
        exact this
      have f2 : DataW.trod enc Tryz.prog W 0 (fun _ => true) true n 46 [c2] = some x2 := by
        have : DataW.trod enc Tryz.prog W 0 (fun _ => true) true n 46 (([c0, c1, c2, c3, c4].drop 2).take (Tryz.prog.cellsOf 46)) = some x2 := hf 2 _ rfl
        rw [cells_exs] at this
        exact this
      have f3 : DataW.trod enc Tryz.prog W 0 (fun _ => true) true n 47 [c3] = some x3 := by
        have : DataW.trod enc Tryz.prog W 0 (fun _ => true) true n 47 (([c0, c1, c2, c3, c4].drop 3).take (Tryz.prog.cellsOf 47)) = some x3 := hf 3 _ rfl
        rw [cells_sts] at this
        exact this
      have f4 : DataW.trod enc Tryz.prog W 0 (fun _ => true) true n 47 [c4] = some x4 := by
        have : DataW.trod enc Tryz.prog W 0 (fun _ => true) true n 47 (([c0, c1, c2, c3, c4].drop 4).take (Tryz.prog.cellsOf 47)) = some x4 := hf 4 _ rfl
        rw [cells_sts] at this
        exact this
      obtain ⟨z0, e0, rfl, w0⟩ := DataW.trod_int Tryz.underlying3 f0
      obtain rfl : c0 = .int .i64 z0 := by simpa using e0
      obtain ⟨z1, e1, rfl, w1⟩ := DataW.trod_string Tryz.underlying9 f1
      obtain rfl : c1 = .string z1 := by simpa using e1
      have y1 : OkN z1.data.toList := str_ok w1
      obtain ⟨ao1, cap1, e, rfl, a1, a2, a3⟩ := exs_in n _ _ f2
      obtain ⟨ao2, cap2, b, rfl, b1, b2, b3⟩ := ih n (by omega) _ _ f3
      obtain ⟨ao3, cap3, l, rfl, l1, l2, l3⟩ := ih n (by omega) _ _ f4
      refine ⟨⟨z0, z1.data.toList⟩, ao1, cap1, e, ao2, cap2, b, ao3, cap3, l, by simp [stC, ci, ct], a1, b1, l1, wf_i64 w0, y1, a2, b2, l2, ?_⟩
      simp only [bulk, Rows.uptoBulk, Rows.uptoBulkAll, List.map_cons, List.map_nil] at a3 b3 l3 ⊢
      omega
theorem sts_step (fuel : Nat) (ih : ∀ n, n < fuel → StsIn enc W n) : StsIn enc W fuel := by
  intro c x h
  rcases open_sl Tryz.underlying47 h with rfl | ⟨a, len, cap, n, el, rest, hn, rfl, hl, hm, hx, hlen, hel⟩
  · refine ⟨none, 0, .nil, rfl, ⟨by simp [Sts.len], by simp [maxLen], Or.inl rfl⟩, trivial, ?_⟩
    have : 1 ≤ bulk x := bulk_pos _
    simpa [bkS] using this
  · rw [cells_st] at hel
    have hpl : 0 < len → a.spot = none := by
      intro h0
      obtain ⟨y, cs, _, hc, ht⟩ := hel 0 h0
      obtain ⟨hh, ao1, cap1, e, ao2, cap2, b, ao3, cap3, l, rfl, _⟩ := stmt_in (fun m hm => ih m (by omega)) ht
      obtain ⟨_, _, hcc⟩ := World.cells?_some hc
      have := hcc 0 (by omega)
      rw [show a.add (0 * 5) = a by simp [Addr.add]] at this
      exact Addr_plain (this.trans rfl)
    have key : ∀ (m i : Nat), i + m = len → ∃ r : Sts, r.len = m ∧ StA W r a.block (a.off + i * 5) ∧ OkS r ∧ bkS r ≤ Rows.uptoBulkAll ((el.drop i).map (·.1)) + 1 := by
      intro m
      induction m with
      | zero => intro i _; exact ⟨.nil, rfl, trivial, trivial, by simp [bkS]⟩
      | succ m ihm =>
        intro i hi
        obtain ⟨r, r1, r2, r3, r4⟩ := ihm (i + 1) (by omega)
        obtain ⟨y, cs, hy, hc, ht⟩ := hel i (by omega)
        obtain ⟨hh, ao1, cap1, e, ao2, cap2, b, ao3, cap3, l, rfl, k1, k2, k3, k4, k5, k6, k7, k8, k9⟩ := stmt_in (fun m hm => ih m (by omega)) ht
        obtain ⟨_, _, hcc⟩ := World.cells?_some hc
        have hsp := hpl (by omega)
        refine ⟨.cons hh e b l r, by simp [Sts.len, r1], ⟨⟨ao1, cap1, ao2, cap2, ao3, cap3, fun j u hu => ?_, k1, k2, k3⟩, ?_⟩, ⟨k4, k5, k6, k7, k8, r3⟩, ?_⟩
        · have hj : j < 5 := (List.getElem?_eq_some_iff.1 hu).1
          have := hcc j hj
          rw [hu] at this
          obtain ⟨b, off, spot⟩ := a
          simp only at hsp
          subst hsp
          rw [Addr.add_lit, Addr.add_lit] at this
          exact this
        · rw [show a.off + i * 5 + 5 = a.off + (i + 1) * 5 by omega]
          exact r2
        · rw [bulk_drop el i y hy]
          simp only [bkS]
          omega
    obtain ⟨r, r1, r2, r3, r4⟩ := key len 0 (by omega)
    refine ⟨some a, cap, r, by rw [r1], ⟨by rw [r1]; exact hl, hm, ?_⟩, r3, ?_⟩
    · by_cases h0 : len = 0
      · left; rw [r1, h0]
      · right
        have hsp := hpl (by omega)
        obtain ⟨b, off, spot⟩ := a
        simp only at hsp
        subst hsp
        exact ⟨b, off, rfl, by simpa using r2⟩
    · simp only [bulk, hx, Rows.uptoBulk]
      simp only [List.drop_zero] at r4
      omega
theorem sts_in (fuel : Nat) : StsIn enc W fuel := by
  induction fuel using Nat.strongRecOn with
  | _ fuel ih => exact sts_step fuel ih
set_option maxRecDepth 20000 in
theorem pa_in {fuel : Nat} {cs : List Value} {x : DataW H × List MemPlace} (h : DataW.trod enc Tryz.prog W 0 (fun _ => true) true fuel 159 cs = some x) : ∃ pp : Pa, cs = paC pp ∧ OkN pp.name ∧ I64 pp.type ∧ pp.name.length + 1 ≤ bulk x := by
  obtain ⟨xs, n, rfl, rfl, hlen, hxl, hf⟩ := DataW.trod_struct Tryz.underlying159 h
  rw [cells_pa] at hlen
  match cs, hlen with
  | [c0, c1], _ =>
    have hxl : xs.length = 2 := hxl
    match xs, hxl with
    | [x0, x1], _ =>
      have f0 : DataW.trod enc Tryz.prog W 0 (fun _ => true) true n 9 [c0] = some x0 := by
        have : DataW.trod enc Tryz.prog W 0 (fun _ => true) true n 9 (([c0, c1].drop 0).take (Tryz.prog.cellsOf 9)) = some x0 := hf 0 _ rfl
        rw [cells_str] at this
        exact this
      have f1 : DataW.trod enc Tryz.prog W 0 (fun _ => true) true n 3 [c1] = some x1 := by
        have : DataW.trod enc Tryz.prog W 0 (fun _ => true) true n 3 (([c0, c1].drop 1).take (Tryz.prog.cellsOf 3)) = some x1 := hf 1 _ rfl
        rw [cells_int] at this
        exact this
      obtain ⟨z0, e0, rfl, w0⟩ := DataW.trod_string Tryz.underlying9 f0
      obtain rfl : c0 = .string z0 := by simpa using e0
      have y0 : OkN z0.data.toList := str_ok w0
      obtain ⟨z1, e1, rfl, w1⟩ := DataW.trod_int Tryz.underlying3 f1
      obtain rfl : c1 = .int .i64 z1 := by simpa using e1
      refine ⟨⟨z0.data.toList, z1⟩, by simp [paC, ci, ct], y0, wf_i64 w1, ?_⟩
      simp only [bulk, Rows.uptoBulk, Rows.uptoBulkAll, List.map_cons, List.map_nil]
      omega
theorem pas_in {fuel : Nat} {c : Value} {x : DataW H × List MemPlace} (h : DataW.trod enc Tryz.prog W 0 (fun _ => true) true fuel 45 [c] = some x) :
    ∃ (ao : Option Addr) (cap : Nat) (l : List Pa), c = .slice ao l.length cap ∧ PaL W ao cap l ∧ (∀ p ∈ l, OkN p.name ∧ I64 p.type) ∧ (l.map (fun p => p.name.length + 1)).sum ≤ bulk x := by
  rcases open_sl Tryz.underlying45 h with rfl | ⟨a, len, cap, n, el, rest, hn, rfl, hl, hm, hx, hlen, hel⟩
  · exact ⟨none, 0, [], rfl, ⟨by simp, by simp [maxLen], Or.inl rfl⟩, by simp, by simp⟩
  · rw [cells_pa] at hel
    have hpl : 0 < len → a.spot = none := by
      intro h0
      obtain ⟨y, cs, _, hc, ht⟩ := hel 0 h0
      obtain ⟨pp, rfl, _⟩ := pa_in ht
      obtain ⟨_, _, hcc⟩ := World.cells?_some hc
      have := hcc 0 (by omega)
      rw [show a.add (0 * 2) = a by simp [Addr.add]] at this
      exact Addr_plain (this.trans rfl)
    have key : ∀ (m i : Nat), i + m = len → ∃ r : List Pa, r.length = m ∧ (∀ (j : Nat) (p : Pa), r[j]? = some p → ∀ (j2 : Nat) (u : Value), (paC p)[j2]? = some u → W.cell? ⟨a.block, a.off + (i + j) * 2 + j2, none⟩ = some u) ∧ (∀ p ∈ r, OkN p.name ∧ I64 p.type) ∧ (r.map (fun p => p.name.length + 1)).sum ≤ Rows.uptoBulkAll ((el.drop i).map (·.1)) := by
      intro m
      induction m with
      | zero => intro i _; exact ⟨[], rfl, by simp, by simp, by simp⟩
      | succ m ihm =>
        intro i hi
        obtain ⟨r, r1, r2, r3, r4⟩ := ihm (i + 1) (by omega)
        obtain ⟨y, cs, hy, hc, ht⟩ := hel i (by omega)
        obtain ⟨pp, rfl, q1, q2, q3⟩ := pa_in ht
        obtain ⟨_, _, hcc⟩ := World.cells?_some hc
        have hsp := hpl (by omega)
        refine ⟨pp :: r, by simp [r1], fun j p hj => ?_, ?_, ?_⟩
        · cases j with
          | zero =>
            obtain rfl : pp = p := by simpa using hj
            intro j u hu
            have hj : j < 2 := (List.getElem?_eq_some_iff.1 hu).1
            have := hcc j hj
            rw [hu] at this
            obtain ⟨b, off, spot⟩ := a
            simp only at hsp
            subst hsp
            rw [Addr.add_lit, Addr.add_lit] at this
            rw [show i + 0 = i by omega]
            exact this
          | succ j =>
            have := r2 j p (by simpa using hj)
            rw [show i + 1 + j = i + (j + 1) by omega] at this
            exact this
        · intro p hp
          rcases List.mem_cons.1 hp with rfl | hp
          · exact ⟨q1, q2⟩
          · exact r3 p hp
        · rw [bulk_drop el i y hy]
          simp only [List.map_cons, List.sum_cons]
          omega
    obtain ⟨r, r1, r2, r3, r4⟩ := key len 0 (by omega)
    refine ⟨some a, cap, r, by rw [r1], ⟨by rw [r1]; exact hl, hm, ?_⟩, r3, ?_⟩
    · by_cases h0 : len = 0
      · left; exact List.eq_nil_of_length_eq_zero (by rw [r1, h0])
      · right
        have hsp := hpl (by omega)
        obtain ⟨b, off, spot⟩ := a
        simp only at hsp
        subst hsp
        refine ⟨b, off, rfl, fun i p hp => ?_⟩
        have := r2 i p hp
        simpa using this
    · simp only [bulk, hx, Rows.uptoBulk]
      simp only [List.drop_zero] at r4
      omega
theorem str_in {fuel : Nat} {cs : List Value} {x : DataW H × List MemPlace} (h : DataW.trod enc Tryz.prog W 0 (fun _ => true) true fuel 9 cs = some x) : ∃ pp : Bs, cs = [ct pp] ∧ OkN pp ∧ pp.length + 1 ≤ bulk x := by
  obtain ⟨z0, rfl, rfl, w0⟩ := DataW.trod_string Tryz.underlying9 h
  exact ⟨z0.data.toList, by simp [ct], str_ok w0, by simp [bulk, Rows.uptoBulk]⟩
theorem strs_in {fuel : Nat} {c : Value} {x : DataW H × List MemPlace} (h : DataW.trod enc Tryz.prog W 0 (fun _ => true) true fuel 36 [c] = some x) :
    ∃ (ao : Option Addr) (cap : Nat) (l : List Bs), c = .slice ao l.length cap ∧ SvL W ao cap l ∧ (∀ p ∈ l, OkN p) ∧ (l.map (fun p => p.length + 1)).sum ≤ bulk x := by
  rcases open_sl Tryz.underlying36 h with rfl | ⟨a, len, cap, n, el, rest, hn, rfl, hl, hm, hx, hlen, hel⟩
  · exact ⟨none, 0, [], rfl, ⟨by simp, by simp [maxLen], Or.inl rfl⟩, by simp, by simp⟩
  · rw [cells_str] at hel
    have hpl : 0 < len → a.spot = none := by
      intro h0
      obtain ⟨y, cs, _, hc, ht⟩ := hel 0 h0
      obtain ⟨pp, rfl, _⟩ := str_in ht
      obtain ⟨_, _, hcc⟩ := World.cells?_some hc
      have := hcc 0 (by omega)
      rw [show a.add (0 * 1) = a by simp [Addr.add]] at this
      exact Addr_plain (this.trans rfl)
    have key : ∀ (m i : Nat), i + m = len → ∃ r : List Bs, r.length = m ∧ (∀ (j : Nat) (p : Bs), r[j]? = some p → ∀ (j2 : Nat) (u : Value), [ct p][j2]? = some u → W.cell? ⟨a.block, a.off + (i + j) * 1 + j2, none⟩ = some u) ∧ (∀ p ∈ r, OkN p) ∧ (r.map (fun p => p.length + 1)).sum ≤ Rows.uptoBulkAll ((el.drop i).map (·.1)) := by
      intro m
      induction m with
      | zero => intro i _; exact ⟨[], rfl, by simp, by simp, by simp⟩
      | succ m ihm =>
        intro i hi
        obtain ⟨r, r1, r2, r3, r4⟩ := ihm (i + 1) (by omega)
        obtain ⟨y, cs, hy, hc, ht⟩ := hel i (by omega)
        obtain ⟨pp, rfl, q1, q3⟩ := str_in ht
        obtain ⟨_, _, hcc⟩ := World.cells?_some hc
        have hsp := hpl (by omega)
        refine ⟨pp :: r, by simp [r1], fun j p hj => ?_, ?_, ?_⟩
        · cases j with
          | zero =>
            obtain rfl : pp = p := by simpa using hj
            intro j u hu
            have hj : j < 1 := (List.getElem?_eq_some_iff.1 hu).1
            have := hcc j hj
            rw [hu] at this
            obtain ⟨b, off, spot⟩ := a
            simp only at hsp
            subst hsp
            rw [Addr.add_lit, Addr.add_lit] at this
            rw [show i + 0 = i by omega]
            exact this
          | succ j =>
            have := r2 j p (by simpa using hj)
            rw [show i + 1 + j = i + (j + 1) by omega] at this
            exact this
        · intro p hp
          rcases List.mem_cons.1 hp with rfl | hp
          · exact q1
          · exact r3 p hp
        · rw [bulk_drop el i y hy]
          simp only [List.map_cons, List.sum_cons]
          omega
    obtain ⟨r, r1, r2, r3, r4⟩ := key len 0 (by omega)
    refine ⟨some a, cap, r, by rw [r1], ⟨by rw [r1]; exact hl, hm, ?_⟩, r3, ?_⟩
    · by_cases h0 : len = 0
      · left; exact List.eq_nil_of_length_eq_zero (by rw [r1, h0])
      · right
        have hsp := hpl (by omega)
        obtain ⟨b, off, spot⟩ := a
        simp only at hsp
        subst hsp
        refine ⟨b, off, rfl, fun i p hp => ?_⟩
        have := r2 i p hp
        have := this 0 _ rfl
        simpa using this
    · simp only [bulk, hx, Rows.uptoBulk]
      simp only [List.drop_zero] at r4
      omega
set_option maxRecDepth 20000 in
theorem de_in {fuel : Nat} {cs : List Value} {x : DataW H × List MemPlace} (h : DataW.trod enc Tryz.prog W 0 (fun _ => true) true fuel 49 cs = some x) : ∃ (pp : De) (pv ev bv : Value), cs = deC pp pv ev bv ∧ DeI W pp pv ev bv ∧ OkD pp ∧ pp.name.length + (pp.params.map fun p => p.name.length + 1).sum + bkX pp.e + bkS pp.body + 1 ≤ bulk x := by
  obtain ⟨xs, n, rfl, rfl, hlen, hxl, hf⟩ := DataW.trod_struct Tryz.underlying49 h
  rw [cells_de] at hlen
  match cs, hlen with
  | [c0, c1, c2, c3, c4, c5, c6], _ =>
    have hxl : xs.length = 7 := hxl
    match xs, hxl with
    | [x0, x1, x2, x3, x4, x5, x6], _ =>
      have f0 : DataW.trod enc Tryz.prog W 0 (fun _ => true) true n 3 [c0] = some x0 := by
        have : DataW.trod enc Tryz.prog W 0 (fun _ => true) true n 3 (([c0, c1, c2, c3, c4, c5, c6].drop 0).take (Tryz.prog.cellsOf 3)) = some x0 := hf 0 _ rfl
        rw [cells_int] at this
        exact this
      have f1 : DataW.trod enc Tryz.prog W 0 (fun _ => true) true n 4 [c1] = some x1 := by
        have : DataW.trod enc Tryz.prog W 0 (fun _ => true) true n 4 (([c0, c1, c2, c3, c4, c5, c6].drop 1).take (Tryz.prog.cellsOf 4)) = some x1 := hf 1 _ rfl
        rw [cells_bool] at this
        exact this
      have f2 : DataW.trod enc Tryz.prog W 0 (fun _ => true) true n 9 [c2] = some x2 := by
        have : DataW.trod enc Tryz.prog W 0 (fun _ => true) true n 9 (([c0, c1, c2, c3, c4, c5, c6].drop 2).take (Tryz.prog.cellsOf 9)) = some x2 := hf 2 _ rfl
        rw [cells_str] at this
        exact this
      have f3 : DataW.trod enc Tryz.prog W 0 (fun _ => true) true n 3 [c3] = some x3 := by
        have : DataW.trod enc Tryz.prog W 0 (fun _ => true) true n 3 (([c0, c1, c2, c3, c4, c5, c6].drop 3).take (Tryz.prog.cellsOf 3)) = some x3 := hf 3 _ rfl
        rw [cells_int] at this
        exact this
      have f4 : DataW.trod enc Tryz.prog W 0 (fun _ => true) true n 45 [c4] = some x4 := by
        have : DataW.trod enc Tryz.prog W 0 (fun _ => true) true n 45 (([c0, c1, c2, c3, c4, c5, c6].drop 4).take (Tryz.prog.cellsOf 45)) = some x4 := hf 4 _ rfl
        rw [cells_pas] at this
        exact this
      have f5 : DataW.trod enc Tryz.prog W 0 (fun _ => true) true n 46 [c5] = some x5 := by
        have : DataW.trod enc Tryz.prog W 0 (fun _ => true) true n 46 (([c0, c1, c2, c3, c4, c5, c6].drop 5).take (Tryz.prog.cellsOf 46)) = some x5 := hf 5 _ rfl
        rw [cells_exs] at this
        exact this
      have f6 : DataW.trod enc Tryz.prog W 0 (fun _ => true) true n 47 [c6] = some x6 := by
        have : DataW.trod enc Tryz.prog W 0 (fun _ => true) true n 47 (([c0, c1, c2, c3, c4, c5, c6].drop 6).take (Tryz.prog.cellsOf 47)) = some x6 := hf 6 _ rfl
        rw [cells_sts] at this
        exact this
      obtain ⟨z0, e0, rfl, w0⟩ := DataW.trod_int Tryz.underlying3 f0
      obtain rfl : c0 = .int .i64 z0 := by simpa using e0
      obtain ⟨z1, e1, rfl⟩ := DataW.trod_bool Tryz.underlying4 f1
      obtain rfl : c1 = .bool z1 := by simpa using e1
      obtain ⟨z2, e2, rfl, w2⟩ := DataW.trod_string Tryz.underlying9 f2
      obtain rfl : c2 = .string z2 := by simpa using e2
      have y2 : OkN z2.data.toList := str_ok w2
      obtain ⟨z3, e3, rfl, w3⟩ := DataW.trod_int Tryz.underlying3 f3
      obtain rfl : c3 = .int .i64 z3 := by simpa using e3
      obtain ⟨ao1, cap1, l, rfl, a1, a2, a3⟩ := pas_in f4
      obtain ⟨ao2, cap2, e, rfl, b1, b2, b3⟩ := exs_in n _ _ f5
      obtain ⟨ao3, cap3, b, rfl, d1, d2, d3⟩ := sts_in n _ _ f6
      refine ⟨⟨z0, z1, z2.data.toList, z3, l, e, b⟩, .slice ao1 l.length cap1, .slice ao2 e.len cap2, .slice ao3 b.len cap3, by simp [deC, ci, ct], ⟨ao1, cap1, ao2, cap2, ao3, cap3, rfl, rfl, rfl, a1, b1, d1⟩, ⟨wf_i64 w0, wf_i64 w3, y2, a2, b2, d2⟩, ?_⟩
      simp only [bulk, Rows.uptoBulk, Rows.uptoBulkAll, List.map_cons, List.map_nil] at a3 b3 d3 ⊢
      omega
def bkD (d : De) : Nat := d.name.length + (d.params.map fun p => p.name.length + 1).sum + bkX d.e + bkS d.body + 1
theorem des_in {fuel : Nat} {c : Value} {x : DataW H × List MemPlace} (h : DataW.trod enc Tryz.prog W 0 (fun _ => true) true fuel 37 [c] = some x) :
    ∃ (ao : Option Addr) (cap : Nat) (l : List De), c = .slice ao l.length cap ∧ DeL W ao cap l ∧ (∀ p ∈ l, OkD p) ∧ (l.map bkD).sum ≤ bulk x := by
  rcases open_sl Tryz.underlying37 h with rfl | ⟨a, len, cap, n, el, rest, hn, rfl, hl, hm, hx, hlen, hel⟩
  · exact ⟨none, 0, [], rfl, ⟨by simp, by simp [maxLen], Or.inl rfl⟩, by simp, by simp⟩
  · rw [cells_de] at hel
    have hpl : 0 < len → a.spot = none := by
      intro h0
      obtain ⟨y, cs, _, hc, ht⟩ := hel 0 h0
      obtain ⟨pp, pv, ev, bv, rfl, _⟩ := de_in ht
      obtain ⟨_, _, hcc⟩ := World.cells?_some hc
      have := hcc 0 (by omega)
      rw [show a.add (0 * 7) = a by simp [Addr.add]] at this
      exact Addr_plain (this.trans rfl)
    have key : ∀ (m i : Nat), i + m = len → ∃ r : List De, r.length = m ∧ (∀ (j : Nat) (p : De), r[j]? = some p → ∃ pv ev bv, DeI W p pv ev bv ∧ ∀ (j2 : Nat) (u : Value), (deC p pv ev bv)[j2]? = some u → W.cell? ⟨a.block, a.off + (i + j) * 7 + j2, none⟩ = some u) ∧ (∀ p ∈ r, OkD p) ∧ (r.map bkD).sum ≤ Rows.uptoBulkAll ((el.drop i).map (·.1)) := by
      intro m
      induction m with
      | zero => intro i _; exact ⟨[], rfl, by simp, by simp, by simp⟩
      | succ m ihm =>
        intro i hi
        obtain ⟨r, r1, r2, r3, r4⟩ := ihm (i + 1) (by omega)
        obtain ⟨y, cs, hy, hc, ht⟩ := hel i (by omega)
        obtain ⟨pp, pv, ev, bv, rfl, q0, q1, q3⟩ := de_in ht
        obtain ⟨_, _, hcc⟩ := World.cells?_some hc
        have hsp := hpl (by omega)
        refine ⟨pp :: r, by simp [r1], fun j p hj => ?_, ?_, ?_⟩
        · cases j with
          | zero =>
            obtain rfl : pp = p := by simpa using hj
            refine ⟨pv, ev, bv, q0, fun j u hu => ?_⟩
            have hj : j < 7 := (List.getElem?_eq_some_iff.1 hu).1
            have := hcc j hj
            rw [hu] at this
            obtain ⟨b, off, spot⟩ := a
            simp only at hsp
            subst hsp
            rw [Addr.add_lit, Addr.add_lit] at this
            rw [show i + 0 = i by omega]
            exact this
          | succ j =>
            have := r2 j p (by simpa using hj)
            rw [show i + 1 + j = i + (j + 1) by omega] at this
            exact this
        · intro p hp
          rcases List.mem_cons.1 hp with rfl | hp
          · exact q1
          · exact r3 p hp
        · rw [bulk_drop el i y hy]
          simp only [List.map_cons, List.sum_cons]
          unfold bkD at *
          omega
    obtain ⟨r, r1, r2, r3, r4⟩ := key len 0 (by omega)
    refine ⟨some a, cap, r, by rw [r1], ⟨by rw [r1]; exact hl, hm, ?_⟩, r3, ?_⟩
    · by_cases h0 : len = 0
      · left; exact List.eq_nil_of_length_eq_zero (by rw [r1, h0])
      · right
        have hsp := hpl (by omega)
        obtain ⟨b, off, spot⟩ := a
        simp only at hsp
        subst hsp
        refine ⟨b, off, rfl, fun i p hp => ?_⟩
        have := r2 i p hp
        simpa using this
    · simp only [bulk, hx, Rows.uptoBulk]
      simp only [List.drop_zero] at r4
      omega
set_option maxRecDepth 20000 in
theorem mo_in {fuel : Nat} {cs : List Value} {x : DataW H × List MemPlace} (h : DataW.trod enc Tryz.prog W 0 (fun _ => true) true fuel 39 cs = some x) : ∃ (m : Mo), MoI W m (.agg cs.toArray) ∧ OkM m ∧ m.name.length + (m.imports.map fun p => p.length + 1).sum + (m.decls.map bkD).sum + 1 ≤ bulk x := by
  obtain ⟨xs, n, rfl, rfl, hlen, hxl, hf⟩ := DataW.trod_struct Tryz.underlying39 h
  rw [cells_mo] at hlen
  match cs, hlen with
  | [c0, c1, c2], _ =>
    have hxl : xs.length = 3 := hxl
    match xs, hxl with
    | [x0, x1, x2], _ =>
      have f0 : DataW.trod enc Tryz.prog W 0 (fun _ => true) true n 9 [c0] = some x0 := by
        have : DataW.trod enc Tryz.prog W 0 (fun _ => true) true n 9 (([c0, c1, c2].drop 0).take (Tryz.prog.cellsOf 9)) = some x0 := hf 0 _ rfl
        rw [cells_str] at this
        exact this
      have f1 : DataW.trod enc Tryz.prog W 0 (fun _ => true) true n 36 [c1] = some x1 := by
        have : DataW.trod enc Tryz.prog W 0 (fun _ => true) true n 36 (([c0, c1, c2].drop 1).take (Tryz.prog.cellsOf 36)) = some x1 := hf 1 _ rfl
        rw [cells_strs] at this
        exact this
      have f2 : DataW.trod enc Tryz.prog W 0 (fun _ => true) true n 37 [c2] = some x2 := by
        have : DataW.trod enc Tryz.prog W 0 (fun _ => true) true n 37 (([c0, c1, c2].drop 2).take (Tryz.prog.cellsOf 37)) = some x2 := hf 2 _ rfl
        rw [cells_des] at this
        exact this
      obtain ⟨z0, e0, rfl, w0⟩ := DataW.trod_string Tryz.underlying9 f0
      obtain rfl : c0 = .string z0 := by simpa using e0
      have y0 : OkN z0.data.toList := str_ok w0
      obtain ⟨ao1, cap1, l, rfl, a1, a2, a3⟩ := strs_in f1
      obtain ⟨ao2, cap2, d, rfl, b1, b2, b3⟩ := des_in f2
      refine ⟨⟨z0.data.toList, l, d⟩, ⟨ao1, cap1, ao2, cap2, by simp [moV, ct], a1, b1⟩, ⟨y0, a2, b2⟩, ?_⟩
      simp only [bulk, Rows.uptoBulk, Rows.uptoBulkAll, List.map_cons, List.map_nil] at a3 b3 ⊢
      omega
set_option maxRecDepth 20000 in
theorem ex_in {fuel : Nat} {cs : List Value} {x : DataW H × List MemPlace} (h : DataW.trod enc Tryz.prog W 0 (fun _ => true) true fuel 56 cs = some x) : ∃ (hh : EH) (k : Exs), ExI W hh k (.agg cs.toArray) ∧ OkE hh ∧ OkX k ∧ hh.mod.length + hh.name.length + bkX k ≤ bulk x := by
  obtain ⟨hh, ao, cap, k, rfl, h1, h2, h3, h4⟩ := expr_in (fun n _ => exs_in n) h
  exact ⟨hh, k, ⟨ao, cap, rfl, h1⟩, h2, h3, h4⟩
theorem mo_arg {fuel : Nat} {v : Value} {x : DataW H × List MemPlace} (h : DataW.trod enc Tryz.prog W 0 (fun _ => true) true fuel 39 v.cells.toList = some x) : ∃ (m : Mo), MoI W m v ∧ OkM m ∧ m.name.length + (m.imports.map fun p => p.length + 1).sum + (m.decls.map bkD).sum + 1 ≤ bulk x := by
  have hl : v.cells.toList.length = 3 := by
    obtain ⟨xs, n, _, _, hlen, _⟩ := DataW.trod_struct Tryz.underlying39 h
    rw [cells_mo] at hlen
    exact hlen
  have hv : v = .agg v.cells.toList.toArray := by
    cases v with
    | agg cs => simp [Value.cells]
    | _ => simp [Value.cells] at hl
  have := mo_in h
  rw [← hv] at this
  exact this
theorem ex_arg {fuel : Nat} {v : Value} {x : DataW H × List MemPlace} (h : DataW.trod enc Tryz.prog W 0 (fun _ => true) true fuel 56 v.cells.toList = some x) : ∃ (hh : EH) (k : Exs), ExI W hh k v ∧ OkE hh ∧ OkX k ∧ hh.mod.length + hh.name.length + bkX k ≤ bulk x := by
  have hl : v.cells.toList.length = 7 := by
    obtain ⟨xs, n, _, _, hlen, _⟩ := DataW.trod_struct Tryz.underlying56 h
    rw [cells_ex] at hlen
    exact hlen
  have hv : v = .agg v.cells.toList.toArray := by
    cases v with
    | agg cs => simp [Value.cells]
    | _ => simp [Value.cells] at hl
  have := ex_in h
  rw [← hv] at this
  exact this
end Go.Proofs.YtpjahcncknccdaaGreat.In
