/- The document's numeral. -/
import Derived.Test.YteijjaabngkbjaaGreatDoorLxR3
namespace Go.Proofs.YteijjaabngkbjaaGreatDoor
open Go.RowKit Lx
set_option linter.unusedSimpArgs false
set_option linter.unusedVariables false

theorem info_rtok : (Tryz.prog.info? 92).map (·.size) = some 5 := by kernel_rfl
theorem post_rtok {fn : Func} {R : Ending → World → Prop} {a : Act} {w : World} {p u : Tmp} {g : Nat} {x0 x1 x2 x3 x4 v0 v1 v2 v3 v4 : Value} (hg : w.heap[g]? = some (.cells #[x0, x1, x2, x3, x4] 92 (0, 0))) (h : fn.results = #[.cell p 92, .tmp u]) (hd : a.defers = [])
    (hp : a.tmps.getD p undef = .pointer (some ⟨g, 0, none⟩)) (hR : R (.returned (.tuple #[.agg #[v0, v1, v2, v3, v4], a.tmps.getD u undef])) (((((w.setCell ⟨g, 0, none⟩ v0).setCell ⟨g, 1, none⟩ v1).setCell ⟨g, 2, none⟩ v2).setCell ⟨g, 3, none⟩ v3).setCell ⟨g, 4, none⟩ v4)) :
    bodyPost Tryz.prog fn R .ret a (((((w.setCell ⟨g, 0, none⟩ v0).setCell ⟨g, 1, none⟩ v1).setCell ⟨g, 2, none⟩ v2).setCell ⟨g, 3, none⟩ v3).setCell ⟨g, 4, none⟩ v4) :=
  post_cell h hd g #[v0, v1, v2, v3, v4] hp (run_loadVar_row _ _ _ _ _ _ _ (set_five hg _ _ _ _ _) Tryz.underlying92 rfl info_rtok) hR

set_option maxRecDepth 20000 in
set_option maxHeartbeats 4000000 in
theorem numeral_hex (l x : By) (i a : Nat) (v e : Int) (hi : i + 2 ≤ l.length) (ha : a ≤ l.length) (hl : l.length ≤ 4096) (h0 : Hidden (l[i]? = some 48)) (h1 : Hidden (l[i + 1]? = some 120)) (hrun : Hidden (i + 2 + run hxB (l.drop (i + 2)) = a)) (hia : i ≤ a)
    (hx : Hidden ((l.drop i).take (a - i) = x)) (hp : Hidden (F.parseS x = (v, e))) (hxl : x.length ≤ 4096) (w : World) :
    Calls Tryz.prog 95 #[.string ⟨l.toArray⟩, .int .i64 (i : Int)] w fun r w' => r = .returned (.tuple #[.agg #[.int .i64 4, .string ⟨x.toArray⟩, .int .i64 (if e = 0 then 2 else 0), .int .u64 (if e = 0 then v else 0), .int .i64 (i : Int)], .int .i64 (if e = 0 then 0 else 10)]) ∧ Fr (fun _ => False) w w' := by
  have hs := str_len l
  have hx0 := str_index l i 48 h0
  have hx1 := index_succ l i 120 h1
  have kp := F.rparse_any x v e hp (by omega)
  have hsl := slice_mid l i a hia ha (by omega)
  rw [show (l.drop i).take (a - i) = x from hx] at hsl
  go_enter Tryz.func95, Tryz.ntmps95
  go_wp2_with fail
  go_loopg [7] (l.length - (i + 2)) (fun k iv wr => ∃ j : Nat, iv = .int .i64 (j : Int) ∧ i + 2 ≤ j ∧ j ≤ l.length ∧ j + run hxB (l.drop j) = a ∧ k = l.length - j ∧ wr = ((w.alloc (.cells #[.int .i64 0, .string ⟨#[]⟩, .int .i64 0, .int .u64 0, .int .i64 0] 92 (0, 0))).alloc (.cells #[.int .i64 3, .string ⟨#[]⟩, .int .i64 0, .int .u64 0, .int .i64 (i : Int)] 92 (0, 0))))
  case atStart => exact ⟨i + 2, by first | rfl | go_num, by omega, by omega, hrun, rfl, rfl⟩
  case round =>
    obtain ⟨j, rfl, hsj, hj, hf, hgk, rfl⟩ := hrel
    have hgkH : Hidden (gk = l.length - j) := hgk
    clear hgk
    have next : ∀ c, l[j]? = some c → hxB c = true → j + 1 + run hxB (l.drop (j + 1)) = a := fun c hc hp => by rw [run_step _ l j c hc, if_pos hp] at hf; omega
    by_cases hgo : ∃ c, l[j]? = some c ∧ hxB c = true
    · obtain ⟨c, hc, hp⟩ := hgo
      have hjl : j < l.length := (List.getElem?_eq_some_iff.1 hc).1
      have hxj := str_index l j c hc
      have kc := rhex_walk c.toNat _ rfl
      rw [(class_nat c).2.2, hp] at kc
      have hfH : Hidden (j + 1 + run hxB (l.drop (j + 1)) = a) := next c hc hp
      clear hf next hc hp
      go_wp2_with (go_at_call 141; refine (kc _).mono ?_; rintro e w' ⟨rfl, rfl⟩)
      go_roundg (l.length - (j + 1))
      case measure =>
        have : gk = l.length - j := hgkH
        omega
      case rel => exact ⟨j + 1, by go_num, by omega, by omega, hfH, rfl, rfl⟩
    · have hja : j = a := by
        have hz : run hxB (l.drop j) = 0 := by
          rw [run_zero]
          intro c hc
          rw [drop_zero_get] at hc
          cases hpc : hxB c
          · rfl
          · exact absurd ⟨c, hc, hpc⟩ hgo
        omega
      have stop : (¬ j < l.length) ∨ ∃ n : Nat, j < l.length ∧ (∀ w, (Instr.index 9 (.string ⟨l.toArray⟩) (.int .i64 (j : Int))).run Tryz.prog w = .ok (.int .u8 (n : Int)) w) ∧ (∀ w, Calls Tryz.prog 141 #[.int .u8 (n : Int)] w fun e w' => e = .returned (.bool false) ∧ w' = w) := by
        by_cases hjl : j < l.length
        · obtain ⟨c, hc⟩ : ∃ c, l[j]? = some c := ⟨l[j], List.getElem?_eq_getElem hjl⟩
          have kc := rhex_walk c.toNat _ rfl
          have hpc : hxB c = false := by
            cases hpc : hxB c
            · rfl
            · exact absurd ⟨c, hc, hpc⟩ hgo
          rw [(class_nat c).2.2, hpc] at kc
          exact Or.inr ⟨c.toNat, hjl, str_index l j c hc, kc⟩
        · exact Or.inl hjl
      clear hf next hgo
      subst hja
      rcases stop with hjl | ⟨n, hjl, hxj, kc⟩
      all_goals
        by_cases he : e = 0
        · subst he
          go_wp2_with (first
            | (go_at_call 141; refine (kc _).mono ?_; rintro e w' ⟨rfl, rfl⟩)
            | (go_at_call 142; refine (kp _).mono ?_; rintro e1 W1 ⟨rfl, g1⟩; have f1 := fr_of_kept g1.1 g1.2
               have ha : Hidden (W1.heap[w.heap.size]? = some (.cells #[.int .i64 0, .string ⟨#[]⟩, .int .i64 0, .int .u64 0, .int .i64 0] 92 (0, 0))) := f1.heap (heap_alloc2_old _ _ _) (fun f => f)
               have hb : Hidden (W1.heap[w.heap.size + 1]? = some (.cells #[.int .i64 4, .string ⟨x.toArray⟩, .int .i64 0, .int .u64 0, .int .i64 (i : Int)] 92 (0, 0))) := f1.heap (heap_alloc2_new _ _ _) (fun f => f)
               have ca0 : W1.cell? ⟨w.heap.size, 0, none⟩ = some (.int .i64 0) := cell_of_row _ _ 0 _ _ _ ha
               have fa0 := frozen_row ha 0
               have ca1 : W1.cell? ⟨w.heap.size, 1, none⟩ = some (.string ⟨#[]⟩) := cell_of_row _ _ 1 _ _ _ ha
               have fa1 := frozen_row ha 1
               have ca2 : W1.cell? ⟨w.heap.size, 2, none⟩ = some (.int .i64 0) := cell_of_row _ _ 2 _ _ _ ha
               have fa2 := frozen_row ha 2
               have ca3 : W1.cell? ⟨w.heap.size, 3, none⟩ = some (.int .u64 0) := cell_of_row _ _ 3 _ _ _ ha
               have fa3 := frozen_row ha 3
               have ca4 : W1.cell? ⟨w.heap.size, 4, none⟩ = some (.int .i64 0) := cell_of_row _ _ 4 _ _ _ ha
               have fa4 := frozen_row ha 4
               have cb0 : W1.cell? ⟨w.heap.size + 1, 0, none⟩ = some (.int .i64 4) := cell_of_row _ _ 0 _ _ _ hb
               have fb0 := frozen_row hb 0
               have cb1 : W1.cell? ⟨w.heap.size + 1, 1, none⟩ = some (.string ⟨x.toArray⟩) := cell_of_row _ _ 1 _ _ _ hb
               have fb1 := frozen_row hb 1
               have cb2 : W1.cell? ⟨w.heap.size + 1, 2, none⟩ = some (.int .i64 0) := cell_of_row _ _ 2 _ _ _ hb
               have fb2 := frozen_row hb 2
               have cb3 : W1.cell? ⟨w.heap.size + 1, 3, none⟩ = some (.int .u64 0) := cell_of_row _ _ 3 _ _ _ hb
               have fb3 := frozen_row hb 3
               have cb4 : W1.cell? ⟨w.heap.size + 1, 4, none⟩ = some (.int .i64 (i : Int)) := cell_of_row _ _ 4 _ _ _ hb
               have fb4 := frozen_row hb 4
               skip))
          (try simp only [Exit.inBlock, Exit.then])
          have ha2 : ((W1.setCell ⟨w.heap.size + 1, 2, none⟩ (.int .i64 2)).setCell ⟨w.heap.size + 1, 3, none⟩ (.int .u64 v)).heap[w.heap.size]? = some (.cells #[.int .i64 0, .string ⟨#[]⟩, .int .i64 0, .int .u64 0, .int .i64 0] 92 (0, 0)) := by
            rw [heap_setCell_other _ _ _ _ (by show w.heap.size ≠ w.heap.size + 1; omega), heap_setCell_other _ _ _ _ (by show w.heap.size ≠ w.heap.size + 1; omega)]
            exact ha
          refine post_rtok ha2 rfl rfl rfl ⟨by simp only [if_true]; rfl, ?_⟩
          exact fr_five (fr_two (((Fr.alloc (fun _ => False) w _).same (Fr.alloc _ _ _)).same f1) (by omega) 2 3 _ _) (Nat.le_refl _) _ _ _ _ _
        · have he2 : (e != 0) = true := by simpa using he
          go_wp2_with (first
            | (go_at_call 141; refine (kc _).mono ?_; rintro e w' ⟨rfl, rfl⟩)
            | (go_at_call 142; refine (kp _).mono ?_; rintro e1 W1 ⟨rfl, g1⟩; have f1 := fr_of_kept g1.1 g1.2
               have ha : Hidden (W1.heap[w.heap.size]? = some (.cells #[.int .i64 0, .string ⟨#[]⟩, .int .i64 0, .int .u64 0, .int .i64 0] 92 (0, 0))) := f1.heap (heap_alloc2_old _ _ _) (fun f => f)
               have hb : Hidden (W1.heap[w.heap.size + 1]? = some (.cells #[.int .i64 4, .string ⟨x.toArray⟩, .int .i64 0, .int .u64 0, .int .i64 (i : Int)] 92 (0, 0))) := f1.heap (heap_alloc2_new _ _ _) (fun f => f)
               have ca0 : W1.cell? ⟨w.heap.size, 0, none⟩ = some (.int .i64 0) := cell_of_row _ _ 0 _ _ _ ha
               have fa0 := frozen_row ha 0
               have ca1 : W1.cell? ⟨w.heap.size, 1, none⟩ = some (.string ⟨#[]⟩) := cell_of_row _ _ 1 _ _ _ ha
               have fa1 := frozen_row ha 1
               have ca2 : W1.cell? ⟨w.heap.size, 2, none⟩ = some (.int .i64 0) := cell_of_row _ _ 2 _ _ _ ha
               have fa2 := frozen_row ha 2
               have ca3 : W1.cell? ⟨w.heap.size, 3, none⟩ = some (.int .u64 0) := cell_of_row _ _ 3 _ _ _ ha
               have fa3 := frozen_row ha 3
               have ca4 : W1.cell? ⟨w.heap.size, 4, none⟩ = some (.int .i64 0) := cell_of_row _ _ 4 _ _ _ ha
               have fa4 := frozen_row ha 4
               have cb0 : W1.cell? ⟨w.heap.size + 1, 0, none⟩ = some (.int .i64 4) := cell_of_row _ _ 0 _ _ _ hb
               have fb0 := frozen_row hb 0
               have cb1 : W1.cell? ⟨w.heap.size + 1, 1, none⟩ = some (.string ⟨x.toArray⟩) := cell_of_row _ _ 1 _ _ _ hb
               have fb1 := frozen_row hb 1
               have cb2 : W1.cell? ⟨w.heap.size + 1, 2, none⟩ = some (.int .i64 0) := cell_of_row _ _ 2 _ _ _ hb
               have fb2 := frozen_row hb 2
               have cb3 : W1.cell? ⟨w.heap.size + 1, 3, none⟩ = some (.int .u64 0) := cell_of_row _ _ 3 _ _ _ hb
               have fb3 := frozen_row hb 3
               have cb4 : W1.cell? ⟨w.heap.size + 1, 4, none⟩ = some (.int .i64 (i : Int)) := cell_of_row _ _ 4 _ _ _ hb
               have fb4 := frozen_row hb 4
               skip))
          (try simp only [Exit.inBlock, Exit.then])
          refine post_rtok ha rfl rfl rfl ⟨by simp only [if_neg he]; rfl, ?_⟩
          exact fr_five (((Fr.alloc (fun _ => False) w _).same (Fr.alloc _ _ _)).same f1) (Nat.le_refl _) _ _ _ _ _

end Go.Proofs.YteijjaabngkbjaaGreatDoor
