/- Rows made for a walk. -/
import Derived.Test.YtphpmaimgndjmaaDoorCdW
import Derived.Laws.MakeOwn
namespace Go.Proofs.YtphpmaimgndjmaaDoor.Cd
open Go.RowKit Ty
set_option linter.unusedSimpArgs false
set_option linter.unusedVariables false

theorem info_sh : (Tryd.prog.info? 75).map (fun i => (i.zero, i.size, i.bytes)) = some (some (.agg #[.string ⟨#[]⟩, .string ⟨#[]⟩, .int .i64 0]), 3, 40) := by kernel_rfl
theorem made_b (n : Nat) : madeCells (Value.int .u8 0).cells n = (stC (List.replicate n none)).toArray := by
  apply Array.ext_getElem?
  intro j
  unfold madeCells stC
  rw [Array.getElem?_map]
  by_cases hj : j < n
  · have : (Array.range n)[j]? = some j := by simp [hj]
    rw [this]
    simp [hj, stN]
    show (#[Value.int .u8 0] : Array Value)[j % 1]! = _
    rw [Nat.mod_one]
    rfl
  · have : (Array.range n)[j]? = none := by simp; omega
    rw [this]
    simp
    omega
theorem ah_zero : ∀ (n j : Nat), j < n * 3 → (ahC (List.replicate n none))[j]? = (shC ⟨[], []⟩)[j % 3]?
  | 0, j, h => by omega
  | n + 1, j, h => by
    have e : ahC (List.replicate (n + 1) none) = shC ⟨[], []⟩ ++ ahC (List.replicate n none) := rfl
    have hl : (shC ⟨[], []⟩).length = 3 := rfl
    rw [e]
    by_cases hj : j < 3
    · rw [List.getElem?_append_left (by omega), Nat.mod_eq_of_lt hj]
    · rw [List.getElem?_append_right (by omega), hl, ah_zero n (j - 3) (by omega)]
      congr 1
      omega
theorem ah_len (L : Cs) : (ahC L).length = L.length * 3 := by
  induction L with
  | nil => rfl
  | cons c r ih =>
    have e : ahC (c :: r) = shC (shO c) ++ ahC r := rfl
    rw [e, List.length_append, ih]
    show 3 + r.length * 3 = (r.length + 1) * 3
    omega
theorem made_s (n : Nat) : madeCells (Value.agg #[.string ⟨#[]⟩, .string ⟨#[]⟩, .int .i64 0]).cells (n * 3) = (ahC (List.replicate n none)).toArray := by
  apply Array.ext_getElem?
  intro j
  unfold madeCells
  rw [Array.getElem?_map]
  by_cases hj : j < n * 3
  · have : (Array.range (n * 3))[j]? = some j := by simp [hj]
    rw [this, List.getElem?_toArray, ah_zero n j hj]
    show some ((#[.string ⟨#[]⟩, .string ⟨#[]⟩, .int .i64 0] : Array Value)[j % 3]!) = _
    have h3 : j % 3 = 0 ∨ j % 3 = 1 ∨ j % 3 = 2 := by omega
    rcases h3 with h | h | h <;> rw [h] <;> rfl
  · have : (Array.range (n * 3))[j]? = none := by simp; omega
    rw [this, List.getElem?_toArray, List.getElem?_eq_none (by rw [ah_len, List.length_replicate]; omega)]
    rfl
theorem make_b (w : World) (n : Nat) (hn : n ≤ 4096) : (Instr.makeSlice 58 (.int .i64 (n : Int)) (.int .i64 (n : Int))).run Tryd.prog w = .ok (.slice (some ⟨w.heap.size, 0, none⟩) n n) (w.alloc (.cells (stC (List.replicate n none)).toArray 5 (0, 0))) := by
  cases hi : Tryd.prog.info? 5 with
  | none => have := info_u8; rw [hi] at this; cases this
  | some i =>
    have hh := info_u8
    rw [hi] at hh
    simp only [Option.map_some, Option.some.injEq, Prod.mk.injEq] at hh
    have := run_makeSlice (P := Tryd.prog) w 58 5 i _ Tryd.underlying58 hi hh.1 .i64 .i64 n n (by omega) (by omega) (by rw [hh.2.1]; simp; omega) (by rw [hh.2.2]; omega) (by omega)
    rw [this, hh.2.1, Int.toNat_natCast, Nat.mul_one, made_b]
theorem make_s (w : World) (n : Nat) (hn : n ≤ 4096) : (Instr.makeSlice 70 (.int .i64 (n : Int)) (.int .i64 (n : Int))).run Tryd.prog w = .ok (.slice (some ⟨w.heap.size, 0, none⟩) n n) (w.alloc (.cells (ahC (List.replicate n none)).toArray 75 (0, 0))) := by
  cases hi : Tryd.prog.info? 75 with
  | none => have := info_sh; rw [hi] at this; cases this
  | some i =>
    have hh := info_sh
    rw [hi] at hh
    simp only [Option.map_some, Option.some.injEq, Prod.mk.injEq] at hh
    have := run_makeSlice (P := Tryd.prog) w 70 75 i _ Tryd.underlying70 hi hh.1 .i64 .i64 n n (by omega) (by omega) (by rw [hh.2.1]; simp; omega) (by rw [hh.2.2]; omega) (by omega)
    rw [this, hh.2.1, Int.toNat_natCast, made_s]
end Go.Proofs.YtphpmaimgndjmaaDoor.Cd
