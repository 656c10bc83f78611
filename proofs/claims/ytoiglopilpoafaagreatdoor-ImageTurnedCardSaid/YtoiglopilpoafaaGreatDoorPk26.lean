/- Texts of ours, in one. -/
import Derived.Test.YtoiglopilpoafaaGreatDoorPk6
import Derived.Deep.Slices
import Derived.Deep.Strs
import Derived.ChangeSlices
import Derived.ChangeArms
import Derived.DataReads
import Derived.SizedLaws
import Derived.Test.YtoiglopilpoafaaGreatDoorPk13
import Derived.Test.YtoiglopilpoafaaGreatDoorPk10
namespace Go.Proofs.YtoiglopilpoafaaGreatDoor.Gn
open Go.RowKit Go.WideShapes Go.ChangeShapes Go.ChangeAt Go.Deep Ty
set_option linter.unusedSimpArgs false
set_option linter.unusedVariables false

theorem Addr_plain {W : World} {a : Addr} {x : Value} (h : W.cell? (a.add 0) = some x) : a.spot = none := by
  have := World.cell?_spot h
  unfold Addr.add at this
  simpa using this
theorem wf_i64 {n : Int} (h : (Lit.int .i64 n).wf = true) : I64 n := by
  have : -9223372036854775808 ≤ n ∧ n ≤ 9223372036854775807 := by simpa [Lit.wf, IntKind.min, IntKind.max, IntKind.signed, IntKind.bits] using h
  exact this
theorem wf_u64 {n : Int} (h : (Lit.int .u64 n).wf = true) : U64 n := by
  have : 0 ≤ n ∧ n ≤ 18446744073709551615 := by simpa [Lit.wf, IntKind.min, IntKind.max, IntKind.signed, IntKind.bits] using h
  exact ⟨this.1, by omega⟩
theorem wf_u8 {z : Int} (h : (Lit.int .u8 z).wf = true) : 0 ≤ z ∧ z ≤ 255 := by
  have : 0 ≤ z ∧ z ≤ 255 := by simpa [Lit.wf, IntKind.min, IntKind.max, IntKind.signed, IntKind.bits] using h
  exact this
theorem agg_of {v : Value} {n : Nat} (hn : n ≠ 1) (hl : v.cells.toList.length = n) : v = .agg v.cells.toList.toArray := by
  cases v with
  | agg cs => simp [Value.cells]
  | _ => simp [Value.cells] at hl; omega
variable {H : Type} {enc : TypeId × Value → H} {W : World}
abbrev bulk (x : DataW H × List MemPlace) : Nat := Rows.uptoBulk x.1
theorem bulk_pos (x : DataW H × List MemPlace) : 1 ≤ bulk x := by
  unfold bulk
  cases x.1 with
  | lit l => cases l <;> simp [Rows.uptoBulk]
  | _ => simp [Rows.uptoBulk]
/-- A slice opened. -/
theorem open_sl {t e : TypeId} {fuel : Nat} {c : Value} {x : DataW H × List MemPlace} (ht : Tryz.prog.underlying t = some (.slice e)) (h : DataW.trod enc Tryz.prog W 0 (fun _ => true) true fuel t [c] = some x) :
    c = .slice none 0 0 ∨ ∃ (a : Addr) (len cap n : Nat) (el rest : List (DataW H × List MemPlace)), fuel = n + 1 ∧ c = .slice (some a) len cap ∧ len ≤ cap ∧ cap ≤ maxLen ∧ x.1 = .slice (el.map (·.1)) (rest.map (·.1)) ∧ el.length = len ∧
      ∀ i, i < len → ∃ y cs, el[i]? = some y ∧ W.cells? 0 (a.add (i * Tryz.prog.cellsOf e)) (Tryz.prog.cellsOf e) = some cs ∧ DataW.trod enc Tryz.prog W 0 (fun _ => true) true n e cs = some y := by
  rcases DataW.trod_slice ht h with ⟨h0, _⟩ | ⟨a, len, cap, el, rest, n, hn, hcs, rfl, hb, hl, hm, hlen, hel, _, _⟩
  · simp only [List.cons.injEq, and_true] at h0
    exact Or.inl h0
  · simp only [List.cons.injEq, and_true] at hcs
    refine Or.inr ⟨a, len, cap, n, el, rest, hn, hcs, hl, hm, rfl, hlen, fun i hi => ?_⟩
    have key := hel i hi
    rw [List.getElem?_eq_getElem (by omega)] at key
    obtain ⟨cs, h1, h2⟩ := Option.bind_eq_some_iff.1 key
    exact ⟨_, cs, List.getElem?_eq_getElem (by omega), h1, h2⟩
theorem bulk_drop (el : List (DataW H × List MemPlace)) (i : Nat) (y : DataW H × List MemPlace) (h : el[i]? = some y) : Rows.uptoBulkAll ((el.drop i).map (·.1)) = bulk y + Rows.uptoBulkAll ((el.drop (i + 1)).map (·.1)) := by
  have hi : i < el.length := (List.getElem?_eq_some_iff.1 h).1
  have e : el.drop i = y :: el.drop (i + 1) := by
    rw [List.drop_eq_getElem_cons hi]
    congr 1
    rw [List.getElem?_eq_getElem hi] at h
    exact Option.some.inj h
  rw [e]
  simp only [List.map_cons, Rows.uptoBulkAll]
theorem str_ok {s : ByteArray} (h : s.size ≤ maxLen) : OkN s.data.toList := by
  have : s.data.toList.length ≤ maxLen := by rw [Array.length_toList]; exact h
  unfold maxLen at this
  unfold OkN
  omega
theorem mem_all {P : Program} {e : TypeId} : ∀ {l : List (DataW H)} {i : Nat} {d : DataW H}, l[i]? = some d → ∀ n ∈ d.weights P e, n ∈ DataW.weightsAll P e l
  | [], i, d, h => by simp at h
  | x :: r, 0, d, h => fun n hn => by
    obtain rfl : x = d := by simpa using h
    simp [DataW.weightsAll, hn]
  | x :: r, i + 1, d, h => fun n hn => by
    have := mem_all (l := r) (i := i) (by simpa using h) n hn
    simp [DataW.weightsAll, this]
/-- A row of elements of k cells each: E a cs, 'the cells cs are a'. -/
def RowIn {α : Type} (W : World) (k : Nat) (E : α → List Value → Prop) (ao : Option Addr) (cap : Nat) (l : List α) : Prop :=
  l.length ≤ cap ∧ cap ≤ maxLen ∧ (ao = none → cap = 0) ∧ (l = [] ∨ ∃ b off, ao = some ⟨b, off, none⟩ ∧ b < W.heap.size ∧ ∀ (i : Nat) (a : α), l[i]? = some a → ∃ cs, E a cs ∧ ∀ (j : Nat) (u : Value), cs[j]? = some u → W.cell? ⟨b, off + i * k + j, none⟩ = some u)
theorem cell_lt {W : World} {b off : Nat} {u : Value} (h : W.cell? ⟨b, off, none⟩ = some u) : b < W.heap.size := by
  unfold World.cell? at h
  simp only [] at h
  rcases hb : W.heap[b]? with _ | o
  · rw [hb] at h; simp at h
  · exact (Array.getElem?_eq_some_iff.1 hb).1
/-- A row that comes in: its elements are each told by E (which may speak of the element's data, Q). -/
theorem row_core {α : Type} {e : TypeId} {k len cap n : Nat} {a : Addr} (hk : Tryz.prog.cellsOf e = k) (h0k : 0 < k) (E : α → List Value → Prop) (Q : DataW H → Prop) (B : α → Nat) (U : Nat → DataW H → Prop)
    (hE : ∀ cs y, DataW.trod enc Tryz.prog W 0 (fun _ => true) true n e cs = some y → Q y.1 → ∃ x : α, E x cs ∧ cs.length = k ∧ U (B x) y.1)
    (hl : len ≤ cap) (hm : cap ≤ maxLen) {el : List (DataW H × List MemPlace)} (hlen : el.length = len)
    (hQ : ∀ (i : Nat) (y : DataW H × List MemPlace), el[i]? = some y → Q y.1)
    (hel : ∀ i : Nat, i < len → ∃ (y : DataW H × List MemPlace) (cs : List Value), el[i]? = some y ∧ W.cells? 0 (a.add (i * Tryz.prog.cellsOf e)) (Tryz.prog.cellsOf e) = some cs ∧ DataW.trod enc Tryz.prog W 0 (fun _ => true) true n e cs = some y) :
    ∃ l : List α, l.length = len ∧ RowIn W k E (some a) cap l ∧ ∀ (i : Nat) (y : DataW H × List MemPlace) (x : α), el[i]? = some y → l[i]? = some x → U (B x) y.1 := by
  rw [hk] at hel
  have hpl : 0 < len → a.spot = none := by
    intro h0
    obtain ⟨y, cs, hy, hc, ht⟩ := hel 0 h0
    obtain ⟨x, hx, hcl, _⟩ := hE cs y ht (hQ 0 y hy)
    obtain ⟨_, _, hcc⟩ := World.cells?_some hc
    have := hcc 0 h0k
    rw [show a.add (0 * k) = a by simp [Addr.add]] at this
    rw [List.getElem?_eq_getElem (by omega)] at this
    exact Addr_plain this
  have key : ∀ (m i : Nat), i + m = len → ∃ r : List α, r.length = m ∧ (∀ (j : Nat) (p : α), r[j]? = some p → ∃ cs, E p cs ∧ ∀ (j2 : Nat) (u : Value), cs[j2]? = some u → W.cell? ⟨a.block, a.off + (i + j) * k + j2, none⟩ = some u) ∧ ∀ (j : Nat) (y : DataW H × List MemPlace) (x : α), el[i + j]? = some y → r[j]? = some x → U (B x) y.1 := by
    intro m
    induction m with
    | zero => intro i _; exact ⟨[], rfl, by simp, by simp⟩
    | succ m ihm =>
      intro i hi
      obtain ⟨r, r1, r2, r3⟩ := ihm (i + 1) (by omega)
      obtain ⟨y, cs, hy, hc, ht⟩ := hel i (by omega)
      obtain ⟨pp, q0, hcl, q3⟩ := hE cs y ht (hQ i y hy)
      obtain ⟨_, _, hcc⟩ := World.cells?_some hc
      have hsp := hpl (by omega)
      refine ⟨pp :: r, by simp [r1], fun j p hj => ?_, fun j y' x hy' hx => ?_⟩
      · cases j with
        | zero =>
          obtain rfl : pp = p := by simpa using hj
          refine ⟨cs, q0, fun j u hu => ?_⟩
          have hj : j < k := by have := (List.getElem?_eq_some_iff.1 hu).1; omega
          have := hcc j hj
          rw [hu] at this
          obtain ⟨b, off, spot⟩ := a
          simp only at hsp
          subst hsp
          rw [Addr.add_lit, Addr.add_lit] at this
          rw [show i + 0 = i by omega]
          exact this
        | succ j =>
          obtain ⟨cs', e1, e2⟩ := r2 j p (by simpa using hj)
          refine ⟨cs', e1, fun j2 u hu => ?_⟩
          have := e2 j2 u hu
          rw [show i + 1 + j = i + (j + 1) by omega] at this
          exact this
      · cases j with
        | zero =>
          obtain rfl : pp = x := by simpa using hx
          rw [Nat.add_zero, hy] at hy'
          obtain rfl := Option.some.inj hy'
          exact q3
        | succ j => exact r3 j y' x (by rw [show i + 1 + j = i + (j + 1) by omega]; exact hy') (by simpa using hx)
  obtain ⟨r, r1, r2, r3⟩ := key len 0 (by omega)
  refine ⟨r, r1, ⟨by omega, hm, (fun h => by cases h), ?_⟩, fun i y x h1 h2 => r3 i y x (by simpa using h1) h2⟩
  by_cases h0 : len = 0
  · left; exact List.eq_nil_of_length_eq_zero (by rw [r1, h0])
  · right
    have hsp := hpl (by omega)
    obtain ⟨y, cs, hy, hc, ht⟩ := hel 0 (by omega)
    obtain ⟨x, hx, hcl, _⟩ := hE cs y ht (hQ 0 y hy)
    obtain ⟨_, _, hcc⟩ := World.cells?_some hc
    have h00 := hcc 0 h0k
    rw [show a.add (0 * k) = a by simp [Addr.add], List.getElem?_eq_getElem (by omega)] at h00
    obtain ⟨b, off, spot⟩ := a
    simp only at hsp
    subst hsp
    refine ⟨b, off, rfl, ?_, fun i p hp => ?_⟩
    · rw [Addr.add_lit] at h00
      exact cell_lt h00
    · obtain ⟨cs, e1, e2⟩ := r2 i p hp
      exact ⟨cs, e1, fun j u hu => by have := e2 j u hu; simpa using this⟩
/-- A row that comes in, bounded by the form's weights. -/
theorem row_w {α : Type} {t e : TypeId} {k by' : Nat} (ht : Tryz.prog.underlying t = some (.slice e)) (hk : Tryz.prog.cellsOf e = k) (h0k : 0 < k) (hby : Tryz.prog.bytesOf e = by') (E : α → List Value → Prop)
    (hE : ∀ n cs y, DataW.trod enc Tryz.prog W 0 (fun _ => true) true n e cs = some y → (∀ n ∈ y.1.weights Tryz.prog e, n ≤ reachBytes) → ∃ x : α, E x cs ∧ cs.length = k)
    {fuel : Nat} {c : Value} {x : DataW H × List MemPlace} (h : DataW.trod enc Tryz.prog W 0 (fun _ => true) true fuel t [c] = some x) (hw : ∀ n ∈ x.1.weights Tryz.prog t, n ≤ reachBytes) :
    ∃ ao cap, ∃ l : List α, c = .slice ao l.length cap ∧ RowIn W k E ao cap l ∧ l.length * by' ≤ reachBytes := by
  rcases open_sl ht h with rfl | ⟨a, len, cap, n, el, rest, hn, rfl, hl, hm, hx, hlen, hel⟩
  · exact ⟨none, 0, [], rfl, ⟨by simp, by simp [maxLen], fun _ => rfl, Or.inl rfl⟩, by simp⟩
  · have e' : x.1.weights Tryz.prog t = (el.length + rest.length) * Tryz.prog.bytesOf e :: (DataW.weightsAll Tryz.prog e (el.map (·.1)) ++ DataW.weightsAll Tryz.prog e (rest.map (·.1))) := by
      rw [hx]
      simp only [DataW.weights, ht, List.length_map]
    rw [e'] at hw
    obtain ⟨l, hll, hrow, _⟩ := row_core (W := W) (enc := enc) (cap := cap) hk h0k E (fun d => ∀ n ∈ d.weights Tryz.prog e, n ≤ reachBytes) (fun _ => 0) (fun _ _ => True)
      (fun cs y h1 h2 => by obtain ⟨q, q1, q2⟩ := hE n cs y h1 h2; exact ⟨q, q1, q2, trivial⟩) hl hm hlen
      (fun i y hy m hm' => hw m (List.mem_cons_of_mem _ (List.mem_append_left _ (mem_all (l := el.map (·.1)) (i := i) (d := y.1) (by rw [List.getElem?_map, hy]; rfl) m hm')))) hel
    refine ⟨some a, cap, l, by rw [hll], hrow, ?_⟩
    have := hw _ (List.mem_cons_self ..)
    rw [hby] at this
    rw [hll, ← hlen]
    refine Nat.le_trans (Nat.mul_le_mul_right _ (Nat.le_add_right _ rest.length)) this
/-- A row that comes in, bounded by its bulk. -/
theorem row_b {α : Type} {t e : TypeId} {k : Nat} (B : α → Nat) (ht : Tryz.prog.underlying t = some (.slice e)) (hk : Tryz.prog.cellsOf e = k) (h0k : 0 < k) (E : α → List Value → Prop)
    (hE : ∀ n cs y, DataW.trod enc Tryz.prog W 0 (fun _ => true) true n e cs = some y → ∃ x : α, E x cs ∧ cs.length = k ∧ B x ≤ bulk y)
    {fuel : Nat} {c : Value} {x : DataW H × List MemPlace} (h : DataW.trod enc Tryz.prog W 0 (fun _ => true) true fuel t [c] = some x) :
    ∃ ao cap, ∃ l : List α, c = .slice ao l.length cap ∧ RowIn W k E ao cap l ∧ (l.map B).sum + 1 ≤ bulk x := by
  rcases open_sl ht h with rfl | ⟨a, len, cap, n, el, rest, hn, rfl, hl, hm, hx, hlen, hel⟩
  · exact ⟨none, 0, [], rfl, ⟨by simp, by simp [maxLen], fun _ => rfl, Or.inl rfl⟩, by simpa using bulk_pos x⟩
  · obtain ⟨l, hll, hrow, hb⟩ := row_core (W := W) (enc := enc) (cap := cap) hk h0k E (fun _ => True) B (fun m d => m ≤ Rows.uptoBulk d)
      (fun cs y h1 _ => hE n cs y h1) hl hm hlen (fun _ _ _ => trivial) hel
    refine ⟨some a, cap, l, by rw [hll], hrow, ?_⟩
    have key : ∀ (el : List (DataW H × List MemPlace)) (l : List α), l.length = el.length → (∀ (i : Nat) (y : DataW H × List MemPlace) (x : α), el[i]? = some y → l[i]? = some x → B x ≤ Rows.uptoBulk y.1) → (l.map B).sum ≤ Rows.uptoBulkAll (el.map (·.1)) := by
      intro el
      induction el with
      | nil =>
        intro l h _
        obtain rfl : l = [] := List.eq_nil_of_length_eq_zero (by simpa using h)
        simp
      | cons y r ih =>
        intro l h hh
        cases l with
        | nil => simp at h
        | cons x l =>
          have h1 := hh 0 y x rfl rfl
          have h2 := ih l (by simpa using h) (fun i y x a b => hh (i + 1) y x (by simpa using a) (by simpa using b))
          simp only [List.map_cons, List.sum_cons, Rows.uptoBulkAll]
          omega
    have := key el l (by rw [hll, hlen]) hb
    simp only [bulk, hx, Rows.uptoBulk]
    omega
end Go.Proofs.YtoiglopilpoafaaGreatDoor.Gn

namespace Go.Proofs.YtoiglopilpoafaaGreatDoor.Cd
open Go.RowKit Go.WideShapes Go.ChangeShapes Go.ChangeAt Go.Deep Ty
set_option linter.unusedSimpArgs false
set_option linter.unusedVariables false
variable {H : Type} {enc : TypeId × Value → H} {W : World}

theorem cells_int : Tryz.prog.cellsOf 3 = 1 := by kernel_rfl
theorem cells_u64 : Tryz.prog.cellsOf 57 = 1 := by kernel_rfl
theorem cells_u8 : Tryz.prog.cellsOf 5 = 1 := by kernel_rfl
theorem cells_val : Tryz.prog.cellsOf 59 = 2 := by kernel_rfl
theorem cells_ins : Tryz.prog.cellsOf 79 = 4 := by kernel_rfl
theorem bytes_ins : Tryz.prog.bytesOf 79 = 32 := by kernel_rfl
theorem bytes_u8 : Tryz.prog.bytesOf 5 = 1 := by kernel_rfl
theorem int_in {n : Nat} {c : Value} {x : DataW H × List MemPlace} (h : DataW.trod enc Tryz.prog W 0 (fun _ => true) true n 3 [c] = some x) : ∃ z : Int, c = ci z ∧ Ty.I64 z := by
  obtain ⟨t, e0, rfl, w0⟩ := DataW.trod_int Tryz.underlying3 h
  exact ⟨t, by simpa using e0, Gn.wf_i64 w0⟩
theorem u64_in {n : Nat} {c : Value} {x : DataW H × List MemPlace} (h : DataW.trod enc Tryz.prog W 0 (fun _ => true) true n 57 [c] = some x) : ∃ z : Int, c = .int .u64 z ∧ U64 z := by
  obtain ⟨t, e0, rfl, w0⟩ := DataW.trod_int Tryz.underlying57 h
  exact ⟨t, by simpa using e0, Gn.wf_u64 w0⟩
theorem u8_in {n : Nat} {c : Value} {x : DataW H × List MemPlace} (h : DataW.trod enc Tryz.prog W 0 (fun _ => true) true n 5 [c] = some x) : ∃ z : UInt8, c = .int .u8 (z.toNat : Int) := by
  obtain ⟨t, e0, rfl, w0⟩ := DataW.trod_int Tryz.underlying5 h
  have := Gn.wf_u8 w0
  refine ⟨UInt8.ofNat t.toNat, ?_⟩
  have e : ((UInt8.ofNat t.toNat).toNat : Int) = t := by rw [UInt8.toNat_ofNat']; omega
  rw [e]
  simpa using e0
theorem val_in {fuel : Nat} {c0 c1 : Value} {x : DataW H × List MemPlace} (h : DataW.trod enc Tryz.prog W 0 (fun _ => true) true fuel 59 [c0, c1] = some x) : ∃ t b : Int, c0 = ci t ∧ c1 = .int .u64 b ∧ Ty.I64 t ∧ U64 b := by
  obtain ⟨xs, n, rfl, rfl, hlen, hxl, hf⟩ := DataW.trod_struct Tryz.underlying59 h
  have hxl : xs.length = 2 := hxl
  match xs, hxl with
  | [x0, x1], _ =>
    have f0 : DataW.trod enc Tryz.prog W 0 (fun _ => true) true n 3 [c0] = some x0 := by
      have : DataW.trod enc Tryz.prog W 0 (fun _ => true) true n 3 (([c0, c1].drop 0).take (Tryz.prog.cellsOf 3)) = some x0 := hf 0 _ rfl
      rw [cells_int] at this
      exact this
    have f1 : DataW.trod enc Tryz.prog W 0 (fun _ => true) true n 57 [c1] = some x1 := by
      have : DataW.trod enc Tryz.prog W 0 (fun _ => true) true n 57 (([c0, c1].drop 1).take (Tryz.prog.cellsOf 57)) = some x1 := hf 1 _ rfl
      rw [cells_u64] at this
      exact this
    obtain ⟨t, rfl, ht⟩ := int_in f0
    obtain ⟨b, rfl, hb⟩ := u64_in f1
    exact ⟨t, b, rfl, rfl, ht, hb⟩
set_option maxRecDepth 20000 in
theorem ins_in {fuel : Nat} {cs : List Value} {x : DataW H × List MemPlace} (h : DataW.trod enc Tryz.prog W 0 (fun _ => true) true fuel 79 cs = some x) : ∃ i : In, cs = inC i ∧ OkIn i := by
  obtain ⟨xs, n, rfl, rfl, hlen, hxl, hf⟩ := DataW.trod_struct Tryz.underlying79 h
  rw [cells_ins] at hlen
  have hxl : xs.length = 3 := hxl
  match cs, hlen, xs, hxl with
  | [c0, c1, c2, c3], _, [x0, x1, x2], _ =>
    have f0 : DataW.trod enc Tryz.prog W 0 (fun _ => true) true n 3 [c0] = some x0 := by
      have : DataW.trod enc Tryz.prog W 0 (fun _ => true) true n 3 (([c0, c1, c2, c3].drop 0).take (Tryz.prog.cellsOf 3)) = some x0 := hf 0 _ rfl
      rw [cells_int] at this
      exact this
    have f1 : DataW.trod enc Tryz.prog W 0 (fun _ => true) true n 3 [c1] = some x1 := by
      have : DataW.trod enc Tryz.prog W 0 (fun _ => true) true n 3 (([c0, c1, c2, c3].drop 1).take (Tryz.prog.cellsOf 3)) = some x1 := hf 1 _ rfl
      rw [cells_int] at this
      exact this
    have f2 : DataW.trod enc Tryz.prog W 0 (fun _ => true) true n 59 [c2, c3] = some x2 := by
      have : DataW.trod enc Tryz.prog W 0 (fun _ => true) true n 59 (([c0, c1, c2, c3].drop 2).take (Tryz.prog.cellsOf 59)) = some x2 := hf 2 _ rfl
      rw [cells_val] at this
      exact this
    obtain ⟨op, rfl, h0⟩ := int_in f0
    obtain ⟨nn, rfl, h1⟩ := int_in f1
    obtain ⟨t, b, rfl, rfl, h2, h3⟩ := val_in f2
    exact ⟨⟨op, nn, t, b⟩, rfl, ⟨h0, h1, h2, h3⟩⟩
/-- An instruction that comes in. -/
def InA (W : World) (v : Value) (i : In) : Prop := v = inV i ∧ OkIn i
theorem ins_arg {fuel : Nat} {v : Value} {x : DataW H × List MemPlace} (h : DataW.trod enc Tryz.prog W 0 (fun _ => true) true fuel 79 v.cells.toList = some x) (hw : ∀ n ∈ x.1.weights Tryz.prog 79, n ≤ reachBytes) : ∃ i : In, InA W v i := by
  have hl : v.cells.toList.length = 4 := by
    obtain ⟨xs, n, _, _, hlen, _⟩ := DataW.trod_struct Tryz.underlying79 h
    rw [cells_ins] at hlen
    exact hlen
  have hv := Gn.agg_of (by omega) hl
  obtain ⟨i, h1, h2⟩ := ins_in h
  exact ⟨i, by rw [hv, h1]; rfl, h2⟩
theorem RowIn.il {ao : Option Addr} {cap : Nat} {l : List In} (h : Gn.RowIn W 4 (fun (i : In) cs => cs = inC i ∧ OkIn i) ao cap l) : IL W ao cap l ∧ ∀ i ∈ l, OkIn i := by
  obtain ⟨h1, h2, h3, h4⟩ := h
  rcases h4 with rfl | ⟨b, off, rfl, hlt, h4⟩
  · exact ⟨⟨h1, h2, h3, Or.inl rfl⟩, by simp⟩
  · refine ⟨⟨h1, h2, h3, Or.inr ⟨b, off, rfl, fun i x hx j u hu => ?_⟩⟩, fun i hi => ?_⟩
    · obtain ⟨cs, ⟨rfl, _⟩, h5⟩ := h4 i x hx
      exact h5 j u hu
    · obtain ⟨k, hk⟩ := List.getElem?_of_mem hi
      obtain ⟨cs, ⟨_, ho⟩, _⟩ := h4 k i hk
      exact ho
/-- A row of instructions that comes in. -/
def InsA (W : World) (v : Value) (l : List In) : Prop := ∃ ao cap, v = .slice ao l.length cap ∧ IL W ao cap l ∧ (∀ i ∈ l, OkIn i) ∧ l.length ≤ 4398046510976
theorem inss_arg {fuel : Nat} {v : Value} {x : DataW H × List MemPlace} (hx : v.cells.toList = [v]) (h : DataW.trod enc Tryz.prog W 0 (fun _ => true) true fuel 49 v.cells.toList = some x) (hw : ∀ n ∈ x.1.weights Tryz.prog 49, n ≤ reachBytes) : ∃ l : List In, InsA W v l := by
  rw [hx] at h
  obtain ⟨ao, cap, l, rfl, hr, hs⟩ := Gn.row_w Tryz.underlying49 cells_ins (by decide) bytes_ins (fun (i : In) cs => cs = inC i ∧ OkIn i) (fun n cs y h1 _ => by
    obtain ⟨i, rfl, hi⟩ := ins_in h1
    exact ⟨i, ⟨rfl, hi⟩, rfl⟩) h hw
  obtain ⟨h1, h2⟩ := RowIn.il hr
  refine ⟨l, ao, cap, rfl, h1, h2, ?_⟩
  unfold reachBytes at hs
  omega
theorem ones_sum : ∀ l : List In, (l.map fun _ => 1).sum = l.length
  | [] => rfl
  | a :: l => by
    have := ones_sum l
    simp only [List.map_cons, List.sum_cons, List.length_cons, this]; omega
/-- .. where its bulk alone is bounded. -/
def bkIs (l : List In) : Nat := l.length
def InsU (W : World) (v : Value) (l : List In) : Prop := ∃ ao cap, v = .slice ao l.length cap ∧ IL W ao cap l ∧ ∀ i ∈ l, OkIn i
theorem inss_argU {fuel : Nat} {v : Value} {x : DataW H × List MemPlace} (hx : v.cells.toList = [v]) (h : DataW.trod enc Tryz.prog W 0 (fun _ => true) true fuel 49 v.cells.toList = some x) : ∃ l : List In, InsU W v l ∧ bkIs l ≤ Gn.bulk x := by
  rw [hx] at h
  obtain ⟨ao, cap, l, rfl, hr, hs⟩ := Gn.row_b (fun _ : In => 1) Tryz.underlying49 cells_ins (by decide) (fun (i : In) cs => cs = inC i ∧ OkIn i) (fun n cs y h1 => by
    obtain ⟨i, rfl, hi⟩ := ins_in h1
    exact ⟨i, ⟨rfl, hi⟩, rfl, Gn.bulk_pos y⟩) h
  obtain ⟨h1, h2⟩ := RowIn.il hr
  refine ⟨l, ⟨ao, cap, rfl, h1, h2⟩, ?_⟩
  have e := ones_sum l
  unfold bkIs
  omega
/-- Bytes that come in. -/
def BytA (W : World) (v : Value) (l : Bs) : Prop := ∃ ao cap, v = .slice ao l.length cap ∧ BL W ao cap l ∧ l.length ≤ 140737488351232
theorem bytes_arg {fuel : Nat} {v : Value} {x : DataW H × List MemPlace} (hx : v.cells.toList = [v]) (h : DataW.trod enc Tryz.prog W 0 (fun _ => true) true fuel 30 v.cells.toList = some x) (hw : ∀ n ∈ x.1.weights Tryz.prog 30, n ≤ reachBytes) : ∃ l : Bs, BytA W v l := by
  rw [hx] at h
  obtain ⟨ao, cap, l, rfl, ⟨h1, h2, h3, h4⟩, hs⟩ := Gn.row_w Tryz.underlying30 cells_u8 (by decide) bytes_u8 (fun (c : UInt8) cs => cs = [.int .u8 (c.toNat : Int)]) (fun n cs y h1 _ => by
    have hl : cs.length = 1 := by
      obtain ⟨t, e0, _⟩ := DataW.trod_int Tryz.underlying5 h1
      rw [e0]; rfl
    match cs, hl with
    | [c], _ =>
      obtain ⟨z, rfl⟩ := u8_in h1
      exact ⟨z, rfl, rfl⟩) h hw
  refine ⟨l, ao, cap, rfl, ⟨h1, h2, h3, ?_⟩, by unfold reachBytes at hs; omega⟩
  rcases h4 with h4 | ⟨b, off, rfl, hlt, h4⟩
  · exact Or.inl h4
  · refine Or.inr ⟨b, off, rfl, fun i c hc => ?_⟩
    obtain ⟨cs, rfl, h5⟩ := h4 i c hc
    have := h5 0 _ rfl
    simpa using this
end Go.Proofs.YtoiglopilpoafaaGreatDoor.Cd
