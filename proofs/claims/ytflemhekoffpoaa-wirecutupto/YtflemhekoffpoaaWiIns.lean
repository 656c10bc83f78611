/- A list of values that comes in. -/
import Derived.Test.YtflemhekoffpoaaWiIn
import Derived.Test.YtflemhekoffpoaaWiBytes
namespace Go.Proofs.Ytflemhekoffpoaa
open Go.RowKit Go.WideShapes Go.ChangeShapes Go.ChangeAt Go.Deep
set_option linter.unusedSimpArgs false
set_option linter.unusedVariables false

/-- How much a value is. -/
def OpD.size (o : OpD) : Nat := 8 + o.s.length + o.l.length + (o.t.map fun s => s.length + 1).sum

/-- One value of a list, at its place. -/
def OpAt (W : World) (b off : Nat) (o : OpD) (lv tv : Value) : Prop :=
  (∀ (j : Nat) (x : Value), [Value.int .i64 o.k, .int .u64 (o.N : Int), .string ⟨o.s.toArray⟩, lv, tv, .int .i64 o.mo, .int .i64 o.lo][j]? = some x → W.cell? ⟨b, off + j, none⟩ = some x) ∧ OpIs W (opv o.k o.N o.s lv tv o.mo o.lo) o lv tv

def OpsIs (W : World) (v : Value) (os : List OpD) : Prop :=
  ∃ ao cap, v = .slice ao os.length cap ∧ os.length ≤ cap ∧ cap ≤ maxLen ∧ (os = [] ∨ ∃ b off, ao = some ⟨b, off, none⟩ ∧ ∀ i o, os[i]? = some o → ∃ lv tv, OpAt W b (off + i * 7) o lv tv)

variable {H : Type} {enc : TypeId × Value → H} {W : World}

theorem ops_in {fuel : Nat} {c : Value} {x : DataW H × List MemPlace} (h : DataW.trod enc Try.prog W 0 (fun _ => true) true fuel 22 [c] = some x) :
    ∃ os : List OpD, OpsIs W c os ∧ (os.map OpD.size).sum ≤ Rows.uptoBulk x.1 := by
  rcases open_slice Try.underlying22 h with ⟨hcs, rfl⟩ | ⟨a, len, cap, m, n, D, Pl, hcs, _, hl, hm, hmm, rfl, hx⟩
  · simp only [List.cons.injEq, and_true] at hcs
    subst hcs
    exact ⟨[], ⟨none, 0, rfl, by simp, by simp, Or.inl rfl⟩, by simp⟩
  · simp only [List.cons.injEq, and_true] at hcs
    subst hcs
    simp only [if_true] at hmm
    rw [Try.cells_op] at hx
    have hx2 : ∀ i, i < len → ∃ o : OpD × Value × Value, (∀ j, j < 7 → W.cell? ((a.add (i * 7)).add j) = [Value.int .i64 o.1.k, .int .u64 (o.1.N : Int), .string ⟨o.1.s.toArray⟩, o.2.1, o.2.2, .int .i64 o.1.mo, .int .i64 o.1.lo][j]?) ∧ OpIs W (opv o.1.k o.1.N o.1.s o.2.1 o.2.2 o.1.mo o.1.lo) o.1 o.2.1 o.2.2 ∧ o.1.size ≤ Rows.uptoBulk (D i) := by
      intro i hi
      obtain ⟨cs', hc, ht⟩ := hx i (by omega)
      obtain ⟨o, lv, tv, rfl, hop, hb⟩ := op_in ht
      obtain ⟨_, _, hcc⟩ := World.cells?_some hc
      exact ⟨(o, lv, tv), hcc, hop, hb⟩
    obtain ⟨f, hf⟩ := @choose_lt (OpD × Value × Value) ⟨(⟨0, 0, [], [], [], 0, 0⟩, .slice none 0 0, .slice none 0 0)⟩ len _ hx2
    refine ⟨(List.range len).map fun i => (f i).1, ⟨some a, cap, by simp, by simp; exact hl, hm, ?_⟩, ?_⟩
    · by_cases h0 : len = 0
      · left; rw [h0]; rfl
      · right
        have h00 := (hf 0 (by omega)).1 0 (by omega)
        have hsp : a.spot = none := by
          have : a.add (0 * 7) = a := by simp [Addr.add]
          rw [this] at h00
          exact Addr_plain h00
        obtain ⟨b, off, spot⟩ := a
        simp only at hsp
        subst hsp
        refine ⟨b, off, rfl, fun i o ho => ?_⟩
        rw [List.getElem?_map] at ho
        by_cases hi : i < len
        · rw [List.getElem?_range hi] at ho
          simp only [Option.map_some, Option.some.injEq] at ho
          subst ho
          refine ⟨(f i).2.1, (f i).2.2, fun j x hj => ?_, (hf i hi).2.1⟩
          have hj7 : j < 7 := by
            have := (List.getElem?_eq_some_iff.1 hj).1
            simpa using this
          have := (hf i hi).1 j hj7
          rw [Addr.add_lit, Addr.add_lit, hj] at this
          exact this
        · rw [List.getElem?_eq_none (by simp; omega)] at ho
          cases ho
    · simp only [Rows.uptoBulk, List.map_map]
      have : ∀ r : List Nat, (∀ i ∈ r, i < len) → (r.map (OpD.size ∘ fun i => (f i).1)).sum ≤ Rows.uptoBulkAll (r.map D) := by
        intro r
        induction r with
        | nil => intro _; simp
        | cons i r ih =>
          intro hr
          have h1 := ih (fun j hj => hr j (List.mem_cons_of_mem _ hj))
          have h2 := (hf i (hr i (List.mem_cons_self ..))).2.2
          simp only [List.map_cons, List.sum_cons, Rows.uptoBulkAll, Function.comp_def] at h1 ⊢
          omega
      have := this (List.range len) (fun i hi => List.mem_range.1 hi)
      omega

theorem sum_raw (t : List (List UInt8)) : (t.map rawS).flatten.length ≤ 4 * (t.map fun s => s.length + 1).sum := by
  induction t with
  | nil => simp
  | cons x r ih =>
    simp only [List.map_cons, List.flatten_cons, List.length_append, rawS_length, List.sum_cons]
    omega
theorem sum_ints (l : List Int) : (l.map i31).flatten.length = 4 * l.length := by
  induction l with
  | nil => simp
  | cons x r ih =>
    simp only [List.map_cons, List.flatten_cons, List.length_append, i31_length, List.length_cons]
    omega
theorem opS_le (o : OpD) : (opS o).length ≤ 4 * o.size := by
  unfold opS OpD.size
  have h1 := sum_raw o.t
  have h2 := sum_ints o.l
  repeat' split
  all_goals simp [intsS, textsS] at *
  all_goals omega
theorem all_le (os : List OpD) : (os.map opS).flatten.length ≤ 4 * (os.map OpD.size).sum := by
  induction os with
  | nil => simp
  | cons o r ih =>
    have := opS_le o
    simp only [List.map_cons, List.flatten_cons, List.length_append, List.sum_cons]
    omega
theorem str_le (t : List (List UInt8)) (x : List UInt8) (h : x ∈ t) : x.length ≤ (t.map fun s => s.length + 1).sum := by
  induction t with
  | nil => cases h
  | cons y r ih =>
    simp only [List.map_cons, List.sum_cons]
    rcases List.mem_cons.1 h with rfl | h
    · omega
    · have := ih h
      omega
theorem OpD.fit (o : OpD) (h : o.size ≤ 1048576) : o.Fit := by
  have h1 := opS_le o
  refine ⟨?_, fun x hx => ?_, by omega⟩
  · unfold OpD.size at h; omega
  · have := str_le o.t x hx
    unfold OpD.size at h
    omega
theorem size_le {os : List OpD} {o : OpD} {i : Nat} (h : os[i]? = some o) : o.size ≤ (os.map OpD.size).sum := by
  induction os generalizing i with
  | nil => simp at h
  | cons x r ih =>
    cases i with
    | zero => simp at h; subst h; simp
    | succ i =>
      have := ih (i := i) (by simpa using h)
      simp
      omega
end Go.Proofs.Ytflemhekoffpoaa
