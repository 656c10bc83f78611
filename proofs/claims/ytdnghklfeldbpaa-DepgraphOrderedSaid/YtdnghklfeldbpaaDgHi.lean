/- A row of numbers of the call's own (high := make([]int, n)). -/
import Derived.Test.YtdnghklfeldbpaaDgM
import Derived.Laws.MakeOwn
namespace Go.Proofs.Ytdnghklfeldbpaa.Dg
open Go.RowKit Go.Sort
set_option linter.unusedSimpArgs false
set_option linter.unusedVariables false
abbrev ci (z : Int) : Value := .int .i64 z
/-- Numbers that can be read and written at b. -/
def Hi (w : World) (b : Nat) (h : List Int) : Prop := ∀ (j : Nat) (z : Int), h[j]? = some z → w.cell? ⟨b, j, none⟩ = some (ci z) ∧ w.frozen? ⟨b, j, none⟩ = false
theorem Hi.later {w w' : World} {b : Nat} {h : List Int} (k : Hi w b h) (hf : Fr (fun _ => False) w w') (hb : b < w.heap.size) : Hi w' b h := fun j z hj => by
  obtain ⟨h1, h2⟩ := k j z hj
  refine ⟨hf.cellN h1, ?_⟩
  rw [World.frozen?_of_block (w := w) (hf.block b hb (fun f => f))]
  exact h2
theorem Hi.set {w : World} {b : Nat} {h : List Int} (k : Hi w b h) {p : Nat} (hp : p < h.length) (z : Int) : Hi (w.setCell ⟨b, p, none⟩ (ci z)) b (h.set p z) := by
  intro j y hj
  have hfz : (w.setCell ⟨b, p, none⟩ (ci z)).frozen? ⟨b, j, none⟩ = w.frozen? ⟨b, j, none⟩ := by simp
  rw [hfz]
  by_cases e : j = p
  · subst e
    rw [List.getElem?_set_self hp] at hj
    obtain rfl := Option.some.inj hj
    obtain ⟨h1, h2⟩ := k j h[j] (List.getElem?_eq_getElem hp)
    exact ⟨World.cell?_setCell_same' w _ _ (by rw [h1]; rfl), h2⟩
  · rw [List.getElem?_set_ne (Ne.symm e)] at hj
    obtain ⟨h1, h2⟩ := k j y hj
    refine ⟨?_, h2⟩
    rw [← h1]
    exact World.cell?_setCell_other w ⟨b, p, none⟩ ⟨b, j, none⟩ (ci z) (fun e' => e (by have := congrArg Addr.off e'; simp only at this; omega))
theorem Try.info_int : (Try.prog.info? 3).map (fun i => (i.zero, i.size, i.bytes)) = some (some (.int .i64 0), 1, 8) := by kernel_rfl
theorem mk_ints (n : Nat) (hn : n ≤ 1048576) (w : World) : (Instr.makeSlice 48 (.int .i64 (n : Int)) (.int .i64 (n : Int))).run Try.prog w = .ok (.slice (some ⟨w.heap.size, 0, none⟩) n n) (w.alloc (.cells (madeCells #[.int .i64 0] n) 3)) := by
  cases hi : Try.prog.info? 3 with
  | none => have := Try.info_int; rw [hi] at this; cases this
  | some i =>
    have h := Try.info_int
    rw [hi] at h
    simp only [Option.map_some, Option.some.injEq, Prod.mk.injEq] at h
    have := run_makeSlice (P := Try.prog) w 48 3 i (.int .i64 0) Try.underlying48 hi h.1 .i64 .i64 n n (by omega) (Int.le_refl _) (by rw [h.2.1]; simp; omega) (by rw [h.2.2]; omega) (by omega)
    rw [this, h.2.1]
    simp
    rfl
theorem made_int (n j : Nat) (hj : j < n) : (madeCells #[.int .i64 0] n)[j]? = some (.int .i64 0) := by
  simp [madeCells, hj, Nat.mod_one]
theorem Hi.new (n : Nat) (w : World) : Hi (w.alloc (.cells (madeCells #[.int .i64 0] n) 3)) w.heap.size (List.replicate n 0) := by
  intro j z hj
  have hjn : j < n := by have := (List.getElem?_eq_some_iff.1 hj).1; simpa using this
  have hz : z = 0 := by rw [List.getElem?_replicate] at hj; simp [hjn] at hj; exact hj.symm
  subst hz
  refine ⟨?_, ?_⟩
  · rw [cell_of_row _ _ _ _ _ _ (alloc_new w _), made_int n j hjn]
  · have h := alloc_new w (.cells (madeCells #[.int .i64 0] n) 3)
    unfold World.frozen?
    rw [h]
    simp
end Go.Proofs.Ytdnghklfeldbpaa.Dg
