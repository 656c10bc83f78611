/- The document's next. -/
import Derived.Test.YteijjaabngkbjaaGreatDoorLxR6
namespace Go.Proofs.YteijjaabngkbjaaGreatDoor
open Go.RowKit Lx
set_option linter.unusedSimpArgs false
set_option linter.unusedVariables false

theorem setOther {w : World} {g h : Nat} {o : Obj} (hg : w.heap[g]? = some o) (hne : g ≠ h) (j : Nat) (v : Value) : (w.setCell ⟨h, j, none⟩ v).heap[g]? = some o := (heap_setCell_other _ _ _ _ hne).trans hg
theorem fr_one {S : Nat → Prop} {w w' : World} (h : Fr S w w') {g : Nat} (hg : w.heap.size ≤ g) (i : Nat) (x : Value) : Fr S w (w'.setCell ⟨g, i, none⟩ x) :=
  h.over (Fr.setCell w' ⟨g, i, none⟩ x) (fun k hk => by subst hk; exact hg)
set_option maxRecDepth 20000 in
set_option maxHeartbeats 4000000 in
theorem next_num (l : By) (i n k m : Nat) (hl : l.length ≤ 4096)
    (hx : ∀ w, (Instr.index 9 (.string ⟨l.toArray⟩) (.int .i64 (i : Int))).run Tryz.prog w = .ok (.int .u8 (n : Int)) w) (hlt : Hidden (ltrN n = false)) (hdg : Hidden (dgtN n = true)) (hi : i < l.length) (w : World)
    (kn : ∀ w, Calls Tryz.prog 95 #[.string ⟨l.toArray⟩, .int .i64 (i : Int)] w fun r w' => RTok l i k m r ∧ Fr (fun _ => False) w w') :
    Calls Tryz.prog 46 #[.string ⟨l.toArray⟩, .int .i64 (i : Int)] w fun r w' => RTok l i k m r ∧ Fr (fun _ => False) w w' := by
  have hs := str_len l
  have kl := rletter_walk n false hlt
  have kd := rdigit_walk n true hdg
  go_enter Tryz.func46, Tryz.ntmps46
  go_wp2_with (first
    | (go_at_call 93; refine (kl _).mono ?_; rintro e w' ⟨rfl, rfl⟩)
    | (go_at_call 94; refine (kd _).mono ?_; rintro e w' ⟨rfl, rfl⟩)
    | (go_at_call 95; refine (kn _).mono ?_; rintro e1 W1 ⟨⟨t1, b1, e2, rfl, hv1, hv2⟩, f1⟩
       have hv1H : Hidden (e2 = (valS k ((l.drop i).take m)).2.2) := hv1
       have hv2H : Hidden (e2 = 0 → t1 = (valS k ((l.drop i).take m)).1 ∧ b1 = (valS k ((l.drop i).take m)).2.1) := hv2
       clear hv1 hv2
       have ha : Hidden (W1.heap[w.heap.size]? = some (.cells #[.int .i64 0, .string ⟨#[]⟩, .int .i64 0, .int .u64 0, .int .i64 0] 92 (0, 0))) := f1.heap (heap_alloc2_old _ _ _) (fun f => f)
       have hb : Hidden (W1.heap[w.heap.size + 1]? = some (.cells #[.int .i64 0, .string ⟨#[]⟩, .int .i64 0, .int .u64 0, .int .i64 (i : Int)] 92 (0, 0))) := f1.heap (heap_alloc2_new _ _ _) (fun f => f)
       have ca0 : W1.cell? ⟨w.heap.size, 0, none⟩ = some (.int .i64 0) := cell_of_row _ _ 0 _ _ _ ha
       have fa0 := frozen_row ha 0
       have ca1 : W1.cell? ⟨w.heap.size, 1, none⟩ = some (.string ⟨#[]⟩) := cell_of_row _ _ 1 _ _ _ ha
       have fa1 := frozen_row ha 1
       have ca2 : W1.cell? ⟨w.heap.size, 2, none⟩ = some (.int .i64 0) := cell_of_row _ _ 2 _ _ _ ha
       have fa2 := frozen_row ha 2
       have ca3 : W1.cell? ⟨w.heap.size, 3, none⟩ = some (.int .u64 0) := cell_of_row _ _ 3 _ _ _ ha
       have fa3 := frozen_row ha 3
       have ca4 : W1.cell? ⟨w.heap.size, 4, none⟩ = some (.int .i64 0) := cell_of_row _ _ 4 _ _ _ ha
       have fa4 := frozen_row ha 4
       have cb0 : W1.cell? ⟨w.heap.size + 1, 0, none⟩ = some (.int .i64 0) := cell_of_row _ _ 0 _ _ _ hb
       have fb0 := frozen_row hb 0
       have cb1 : W1.cell? ⟨w.heap.size + 1, 1, none⟩ = some (.string ⟨#[]⟩) := cell_of_row _ _ 1 _ _ _ hb
       have fb1 := frozen_row hb 1
       have cb2 : W1.cell? ⟨w.heap.size + 1, 2, none⟩ = some (.int .i64 0) := cell_of_row _ _ 2 _ _ _ hb
       have fb2 := frozen_row hb 2
       have cb3 : W1.cell? ⟨w.heap.size + 1, 3, none⟩ = some (.int .u64 0) := cell_of_row _ _ 3 _ _ _ hb
       have fb3 := frozen_row hb 3
       have cb4 : W1.cell? ⟨w.heap.size + 1, 4, none⟩ = some (.int .i64 (i : Int)) := cell_of_row _ _ 4 _ _ _ hb
       have fb4 := frozen_row hb 4
       skip))
  (try simp only [Exit.inBlock, Exit.then])
  refine post_rtok ha rfl rfl rfl ⟨⟨t1, b1, e2, rfl, hv1H, hv2H⟩, ?_⟩
  exact fr_five (((Fr.alloc (fun _ => False) w _).same (Fr.alloc _ _ _)).same f1) (Nat.le_refl _) _ _ _ _ _

set_option maxRecDepth 20000 in
set_option maxHeartbeats 4000000 in
theorem next_mark (l : By) (i n m : Nat) (hl : l.length ≤ 4096) (hi : i < l.length) (him : i + m ≤ l.length) (hm2 : m ≤ 2)
    (hx : ∀ w, (Instr.index 9 (.string ⟨l.toArray⟩) (.int .i64 (i : Int))).run Tryz.prog w = .ok (.int .u8 (n : Int)) w) (hlt : Hidden (ltrN n = false)) (hdg : Hidden (dgtN n = false)) (hm : Hidden (mkLen (l.drop i) = m)) (x : By) (hxx : Hidden ((l.drop i).take m = x)) (w : World) :
    Calls Tryz.prog 46 #[.string ⟨l.toArray⟩, .int .i64 (i : Int)] w fun r w' => ((m = 0 ∧ r = .returned (.tuple #[.agg #[.int .i64 0, .string ⟨#[]⟩, .int .i64 0, .int .u64 0, .int .i64 (i : Int)], .int .i64 10])) ∨
      (m ≠ 0 ∧ r = .returned (.tuple #[.agg #[.int .i64 5, .string ⟨x.toArray⟩, .int .i64 0, .int .u64 0, .int .i64 (i : Int)], .int .i64 0]))) ∧ Fr (fun _ => False) w w' := by
  have hs := str_len l
  have kl := rletter_walk n false hlt
  have kd := rdigit_walk n false hdg
  have km := rmark_any l i m hi (by omega) hm
  have hsl : ∀ w, (Instr.slice 9 (.string ⟨l.toArray⟩) (some (.int .i64 (i : Int))) (some (.int .i64 ((i : Int) + (m : Int)))) none).run Tryz.prog w = .ok (.string ⟨x.toArray⟩) w := by
    intro w
    have := slice_mid l i (i + m) (by omega) him (by omega) w
    rw [show i + m - i = m by omega, show (l.drop i).take m = x from hxx, show ((i + m : Nat) : Int) = (i : Int) + (m : Int) by omega] at this
    exact this
  by_cases h0 : m = 0
  · have h1 : ((m : Int) == 0) = true := by simp [h0]
    go_enter Tryz.func46, Tryz.ntmps46
    go_wp2_with (first
      | (go_at_call 93; refine (kl _).mono ?_; rintro e w' ⟨rfl, rfl⟩)
      | (go_at_call 94; refine (kd _).mono ?_; rintro e w' ⟨rfl, rfl⟩)
      | (go_at_call 96; refine (km _).mono ?_; rintro e1 W1 ⟨rfl, f1⟩
         have ha : Hidden (W1.heap[w.heap.size]? = some (.cells #[.int .i64 0, .string ⟨#[]⟩, .int .i64 0, .int .u64 0, .int .i64 0] 92 (0, 0))) := f1.heap (heap_alloc2_old _ _ _) (fun f => f)
         have hb : Hidden (W1.heap[w.heap.size + 1]? = some (.cells #[.int .i64 0, .string ⟨#[]⟩, .int .i64 0, .int .u64 0, .int .i64 (i : Int)] 92 (0, 0))) := f1.heap (heap_alloc2_new _ _ _) (fun f => f)
         have ca0 : W1.cell? ⟨w.heap.size, 0, none⟩ = some (.int .i64 0) := cell_of_row _ _ 0 _ _ _ ha
         have fa0 := frozen_row ha 0
         have ca1 : W1.cell? ⟨w.heap.size, 1, none⟩ = some (.string ⟨#[]⟩) := cell_of_row _ _ 1 _ _ _ ha
         have fa1 := frozen_row ha 1
         have ca2 : W1.cell? ⟨w.heap.size, 2, none⟩ = some (.int .i64 0) := cell_of_row _ _ 2 _ _ _ ha
         have fa2 := frozen_row ha 2
         have ca3 : W1.cell? ⟨w.heap.size, 3, none⟩ = some (.int .u64 0) := cell_of_row _ _ 3 _ _ _ ha
         have fa3 := frozen_row ha 3
         have ca4 : W1.cell? ⟨w.heap.size, 4, none⟩ = some (.int .i64 0) := cell_of_row _ _ 4 _ _ _ ha
         have fa4 := frozen_row ha 4
         have cb0 : W1.cell? ⟨w.heap.size + 1, 0, none⟩ = some (.int .i64 0) := cell_of_row _ _ 0 _ _ _ hb
         have fb0 := frozen_row hb 0
         have cb1 : W1.cell? ⟨w.heap.size + 1, 1, none⟩ = some (.string ⟨#[]⟩) := cell_of_row _ _ 1 _ _ _ hb
         have fb1 := frozen_row hb 1
         have cb2 : W1.cell? ⟨w.heap.size + 1, 2, none⟩ = some (.int .i64 0) := cell_of_row _ _ 2 _ _ _ hb
         have fb2 := frozen_row hb 2
         have cb3 : W1.cell? ⟨w.heap.size + 1, 3, none⟩ = some (.int .u64 0) := cell_of_row _ _ 3 _ _ _ hb
         have fb3 := frozen_row hb 3
         have cb4 : W1.cell? ⟨w.heap.size + 1, 4, none⟩ = some (.int .i64 (i : Int)) := cell_of_row _ _ 4 _ _ _ hb
         have fb4 := frozen_row hb 4
         skip))
    (try simp only [Exit.inBlock, Exit.then])
    refine post_rtok ha rfl rfl rfl ⟨Or.inl ⟨h0, rfl⟩, ?_⟩
    exact fr_five (((Fr.alloc (fun _ => False) w _).same (Fr.alloc _ _ _)).same f1) (Nat.le_refl _) _ _ _ _ _
  · have h1 : ((m : Int) == 0) = false := by rw [beq_eq_false_iff_ne]; omega
    go_enter Tryz.func46, Tryz.ntmps46
    go_wp2_with (first
      | (go_at_call 93; refine (kl _).mono ?_; rintro e w' ⟨rfl, rfl⟩)
      | (go_at_call 94; refine (kd _).mono ?_; rintro e w' ⟨rfl, rfl⟩)
      | (go_at_call 96; refine (km _).mono ?_; rintro e1 W1 ⟨rfl, f1⟩
         have ha : Hidden (W1.heap[w.heap.size]? = some (.cells #[.int .i64 0, .string ⟨#[]⟩, .int .i64 0, .int .u64 0, .int .i64 0] 92 (0, 0))) := f1.heap (heap_alloc2_old _ _ _) (fun f => f)
         have hb : Hidden (W1.heap[w.heap.size + 1]? = some (.cells #[.int .i64 0, .string ⟨#[]⟩, .int .i64 0, .int .u64 0, .int .i64 (i : Int)] 92 (0, 0))) := f1.heap (heap_alloc2_new _ _ _) (fun f => f)
         have ca0 : W1.cell? ⟨w.heap.size, 0, none⟩ = some (.int .i64 0) := cell_of_row _ _ 0 _ _ _ ha
         have fa0 := frozen_row ha 0
         have ca1 : W1.cell? ⟨w.heap.size, 1, none⟩ = some (.string ⟨#[]⟩) := cell_of_row _ _ 1 _ _ _ ha
         have fa1 := frozen_row ha 1
         have ca2 : W1.cell? ⟨w.heap.size, 2, none⟩ = some (.int .i64 0) := cell_of_row _ _ 2 _ _ _ ha
         have fa2 := frozen_row ha 2
         have ca3 : W1.cell? ⟨w.heap.size, 3, none⟩ = some (.int .u64 0) := cell_of_row _ _ 3 _ _ _ ha
         have fa3 := frozen_row ha 3
         have ca4 : W1.cell? ⟨w.heap.size, 4, none⟩ = some (.int .i64 0) := cell_of_row _ _ 4 _ _ _ ha
         have fa4 := frozen_row ha 4
         have cb0 : W1.cell? ⟨w.heap.size + 1, 0, none⟩ = some (.int .i64 0) := cell_of_row _ _ 0 _ _ _ hb
         have fb0 := frozen_row hb 0
         have cb1 : W1.cell? ⟨w.heap.size + 1, 1, none⟩ = some (.string ⟨#[]⟩) := cell_of_row _ _ 1 _ _ _ hb
         have fb1 := frozen_row hb 1
         have cb2 : W1.cell? ⟨w.heap.size + 1, 2, none⟩ = some (.int .i64 0) := cell_of_row _ _ 2 _ _ _ hb
         have fb2 := frozen_row hb 2
         have cb3 : W1.cell? ⟨w.heap.size + 1, 3, none⟩ = some (.int .u64 0) := cell_of_row _ _ 3 _ _ _ hb
         have fb3 := frozen_row hb 3
         have cb4 : W1.cell? ⟨w.heap.size + 1, 4, none⟩ = some (.int .i64 (i : Int)) := cell_of_row _ _ 4 _ _ _ hb
         have fb4 := frozen_row hb 4
         skip))
    (try simp only [Exit.inBlock, Exit.then])
    refine post_rtok (setOther (setOther ha (by omega) _ _) (by omega) _ _) rfl rfl rfl ⟨Or.inr ⟨h0, rfl⟩, ?_⟩
    exact fr_five (fr_two (((Fr.alloc (fun _ => False) w _).same (Fr.alloc _ _ _)).same f1) (by omega) 0 1 _ _) (Nat.le_refl _) _ _ _ _ _

set_option maxRecDepth 20000 in
set_option maxHeartbeats 8000000 in
theorem next_name (l x : By) (i n a : Nat) (wd : Bool) (hl : l.length ≤ 4096) (hi : i < l.length) (ha0 : a ≤ l.length) (hia : i ≤ a)
    (hx : ∀ w, (Instr.index 9 (.string ⟨l.toArray⟩) (.int .i64 (i : Int))).run Tryz.prog w = .ok (.int .u8 (n : Int)) w) (hlt : Hidden (ltrN n = true)) (hrun : Hidden (i + run nmB (l.drop i) = a)) (hxx : Hidden ((l.drop i).take (a - i) = x)) (hxl : x.length ≤ 4096)
    (hw : Hidden (decide (x ∈ wordsL) = wd)) (w : World) :
    Calls Tryz.prog 46 #[.string ⟨l.toArray⟩, .int .i64 (i : Int)] w fun r w' => r = .returned (.tuple #[.agg #[.int .i64 (if wd then 2 else 1), .string ⟨x.toArray⟩, .int .i64 0, .int .u64 0, .int .i64 (i : Int)], .int .i64 (if wd then 0 else if 32 < x.length then 12 else 0)]) ∧ Fr (fun _ => False) w w' := by
  have hs := str_len l
  have hsx := str_len x
  have kl0 := rletter_walk n true hlt
  have kr := rreserved_any x wd hw
  have hsl := slice_mid l i a hia ha0 (by omega)
  rw [show (l.drop i).take (a - i) = x from hxx] at hsl
  go_enter Tryz.func46, Tryz.ntmps46
  go_wp2_with (first
    | (go_at_call 93; refine (kl0 _).mono ?_; rintro e w ⟨rfl, rfl⟩))
  go_loopg [7] (l.length - i) (fun k iv wr => ∃ j : Nat, iv = .int .i64 (j : Int) ∧ i ≤ j ∧ j ≤ l.length ∧ j + run nmB (l.drop j) = a ∧ k = l.length - j ∧ wr = ((w.alloc (.cells #[.int .i64 0, .string ⟨#[]⟩, .int .i64 0, .int .u64 0, .int .i64 0] 92 (0, 0))).alloc (.cells #[.int .i64 0, .string ⟨#[]⟩, .int .i64 0, .int .u64 0, .int .i64 (i : Int)] 92 (0, 0))))
  case atStart => exact ⟨i, rfl, by omega, by omega, hrun, rfl, rfl⟩
  case round =>
    obtain ⟨j, rfl, hsj, hj, hf, hgk, rfl⟩ := hrel
    have hgkH : Hidden (gk = l.length - j) := hgk
    clear hgk kl0
    by_cases hgo : ∃ c, l[j]? = some c ∧ nmB c = true
    · obtain ⟨c, hc, hp⟩ := hgo
      have hjl : j < l.length := (List.getElem?_eq_some_iff.1 hc).1
      have hxj := str_index l j c hc
      rw [run_step _ l j c hc, if_pos hp] at hf
      have hfH : Hidden (j + 1 + run nmB (l.drop (j + 1)) = a) := by show _ = _; omega
      have kl := rletter_walk c.toNat _ rfl
      have kd := rdigit_walk c.toNat _ rfl
      rw [(class_nat c).1] at kl
      rw [(class_nat c).2.1] at kd
      simp only [nmB, Bool.or_eq_true] at hp
      clear hf hc
      cases hlc : ltr c
      · rw [hlc] at kl
        have hdc : dgt c = true := by rcases hp with hp | hp; exact hp; rw [hlc] at hp; cases hp
        rw [hdc] at kd
        clear hlc hp hdc
        go_wp2_with (first
          | (go_at_call 93; refine (kl _).mono ?_; rintro e w' ⟨rfl, rfl⟩)
          | (go_at_call 94; refine (kd _).mono ?_; rintro e w' ⟨rfl, rfl⟩))
        go_roundg (l.length - (j + 1))
        case measure =>
          have : gk = l.length - j := hgkH
          omega
        case rel => exact ⟨j + 1, by go_num, by omega, by omega, hfH, rfl, rfl⟩
      · rw [hlc] at kl
        clear hlc hp kd
        go_wp2_with (first
          | (go_at_call 93; refine (kl _).mono ?_; rintro e w' ⟨rfl, rfl⟩))
        go_roundg (l.length - (j + 1))
        case measure =>
          have : gk = l.length - j := hgkH
          omega
        case rel => exact ⟨j + 1, by go_num, by omega, by omega, hfH, rfl, rfl⟩
    · have hja : j = a := by
        have hz : run nmB (l.drop j) = 0 := by
          rw [run_zero]
          intro c hc
          rw [drop_zero_get] at hc
          cases hpc : nmB c
          · rfl
          · exact absurd ⟨c, hc, hpc⟩ hgo
        omega
      have stop : (¬ j < l.length) ∨ ∃ n : Nat, j < l.length ∧ (∀ w, (Instr.index 9 (.string ⟨l.toArray⟩) (.int .i64 (j : Int))).run Tryz.prog w = .ok (.int .u8 (n : Int)) w) ∧ (∀ w, Calls Tryz.prog 93 #[.int .u8 (n : Int)] w fun e w' => e = .returned (.bool false) ∧ w' = w) ∧ (∀ w, Calls Tryz.prog 94 #[.int .u8 (n : Int)] w fun e w' => e = .returned (.bool false) ∧ w' = w) := by
        by_cases hjl : j < l.length
        · obtain ⟨c, hc⟩ : ∃ c, l[j]? = some c := ⟨l[j], List.getElem?_eq_getElem hjl⟩
          have kl := rletter_walk c.toNat _ rfl
          have kd := rdigit_walk c.toNat _ rfl
          have hpc : nmB c = false := by
            cases hpc : nmB c
            · rfl
            · exact absurd ⟨c, hc, hpc⟩ hgo
          simp only [nmB, Bool.or_eq_false_iff] at hpc
          rw [(class_nat c).1, hpc.2] at kl
          rw [(class_nat c).2.1, hpc.1] at kd
          exact Or.inr ⟨c.toNat, hjl, str_index l j c hc, kl, kd⟩
        · exact Or.inl hjl
      clear hf hgo
      subst hja
      rcases stop with hjl | ⟨n, hjl, hxj, kl, kd⟩
      all_goals
        cases wd
        · by_cases h32 : 32 < x.length
          · go_wp2_with (first
              | (go_at_call 93; refine (kl _).mono ?_; rintro e w' ⟨rfl, rfl⟩)
              | (go_at_call 94; refine (kd _).mono ?_; rintro e w' ⟨rfl, rfl⟩)
              | (go_at_call 85; refine (kr _).mono ?_; rintro e1 W1 ⟨rfl, f1⟩
                 have ha : Hidden (W1.heap[w.heap.size]? = some (.cells #[.int .i64 0, .string ⟨#[]⟩, .int .i64 0, .int .u64 0, .int .i64 0] 92 (0, 0))) := f1.heap (heap_alloc2_old _ _ _) (fun f => f)
                 have hb : Hidden (W1.heap[w.heap.size + 1]? = some (.cells #[.int .i64 1, .string ⟨x.toArray⟩, .int .i64 0, .int .u64 0, .int .i64 (i : Int)] 92 (0, 0))) := f1.heap (heap_alloc2_new _ _ _) (fun f => f)
                 have ca0 : W1.cell? ⟨w.heap.size, 0, none⟩ = some (.int .i64 0) := cell_of_row _ _ 0 _ _ _ ha
                 have fa0 := frozen_row ha 0
                 have ca1 : W1.cell? ⟨w.heap.size, 1, none⟩ = some (.string ⟨#[]⟩) := cell_of_row _ _ 1 _ _ _ ha
                 have fa1 := frozen_row ha 1
                 have ca2 : W1.cell? ⟨w.heap.size, 2, none⟩ = some (.int .i64 0) := cell_of_row _ _ 2 _ _ _ ha
                 have fa2 := frozen_row ha 2
                 have ca3 : W1.cell? ⟨w.heap.size, 3, none⟩ = some (.int .u64 0) := cell_of_row _ _ 3 _ _ _ ha
                 have fa3 := frozen_row ha 3
                 have ca4 : W1.cell? ⟨w.heap.size, 4, none⟩ = some (.int .i64 0) := cell_of_row _ _ 4 _ _ _ ha
                 have fa4 := frozen_row ha 4
                 have cb0 : W1.cell? ⟨w.heap.size + 1, 0, none⟩ = some (.int .i64 1) := cell_of_row _ _ 0 _ _ _ hb
                 have fb0 := frozen_row hb 0
                 have cb1 : W1.cell? ⟨w.heap.size + 1, 1, none⟩ = some (.string ⟨x.toArray⟩) := cell_of_row _ _ 1 _ _ _ hb
                 have fb1 := frozen_row hb 1
                 have cb2 : W1.cell? ⟨w.heap.size + 1, 2, none⟩ = some (.int .i64 0) := cell_of_row _ _ 2 _ _ _ hb
                 have fb2 := frozen_row hb 2
                 have cb3 : W1.cell? ⟨w.heap.size + 1, 3, none⟩ = some (.int .u64 0) := cell_of_row _ _ 3 _ _ _ hb
                 have fb3 := frozen_row hb 3
                 have cb4 : W1.cell? ⟨w.heap.size + 1, 4, none⟩ = some (.int .i64 (i : Int)) := cell_of_row _ _ 4 _ _ _ hb
                 have fb4 := frozen_row hb 4
                 skip))
            (try simp only [Exit.inBlock, Exit.then])
            refine post_rtok ha rfl rfl rfl ⟨by simp only [Bool.false_eq_true, if_false, if_pos h32]; rfl, ?_⟩
            exact fr_five (((Fr.alloc (fun _ => False) w _).same (Fr.alloc _ _ _)).same f1) (Nat.le_refl _) _ _ _ _ _
          · go_wp2_with (first
              | (go_at_call 93; refine (kl _).mono ?_; rintro e w' ⟨rfl, rfl⟩)
              | (go_at_call 94; refine (kd _).mono ?_; rintro e w' ⟨rfl, rfl⟩)
              | (go_at_call 85; refine (kr _).mono ?_; rintro e1 W1 ⟨rfl, f1⟩
                 have ha : Hidden (W1.heap[w.heap.size]? = some (.cells #[.int .i64 0, .string ⟨#[]⟩, .int .i64 0, .int .u64 0, .int .i64 0] 92 (0, 0))) := f1.heap (heap_alloc2_old _ _ _) (fun f => f)
                 have hb : Hidden (W1.heap[w.heap.size + 1]? = some (.cells #[.int .i64 1, .string ⟨x.toArray⟩, .int .i64 0, .int .u64 0, .int .i64 (i : Int)] 92 (0, 0))) := f1.heap (heap_alloc2_new _ _ _) (fun f => f)
                 have ca0 : W1.cell? ⟨w.heap.size, 0, none⟩ = some (.int .i64 0) := cell_of_row _ _ 0 _ _ _ ha
                 have fa0 := frozen_row ha 0
                 have ca1 : W1.cell? ⟨w.heap.size, 1, none⟩ = some (.string ⟨#[]⟩) := cell_of_row _ _ 1 _ _ _ ha
                 have fa1 := frozen_row ha 1
                 have ca2 : W1.cell? ⟨w.heap.size, 2, none⟩ = some (.int .i64 0) := cell_of_row _ _ 2 _ _ _ ha
                 have fa2 := frozen_row ha 2
                 have ca3 : W1.cell? ⟨w.heap.size, 3, none⟩ = some (.int .u64 0) := cell_of_row _ _ 3 _ _ _ ha
                 have fa3 := frozen_row ha 3
                 have ca4 : W1.cell? ⟨w.heap.size, 4, none⟩ = some (.int .i64 0) := cell_of_row _ _ 4 _ _ _ ha
                 have fa4 := frozen_row ha 4
                 have cb0 : W1.cell? ⟨w.heap.size + 1, 0, none⟩ = some (.int .i64 1) := cell_of_row _ _ 0 _ _ _ hb
                 have fb0 := frozen_row hb 0
                 have cb1 : W1.cell? ⟨w.heap.size + 1, 1, none⟩ = some (.string ⟨x.toArray⟩) := cell_of_row _ _ 1 _ _ _ hb
                 have fb1 := frozen_row hb 1
                 have cb2 : W1.cell? ⟨w.heap.size + 1, 2, none⟩ = some (.int .i64 0) := cell_of_row _ _ 2 _ _ _ hb
                 have fb2 := frozen_row hb 2
                 have cb3 : W1.cell? ⟨w.heap.size + 1, 3, none⟩ = some (.int .u64 0) := cell_of_row _ _ 3 _ _ _ hb
                 have fb3 := frozen_row hb 3
                 have cb4 : W1.cell? ⟨w.heap.size + 1, 4, none⟩ = some (.int .i64 (i : Int)) := cell_of_row _ _ 4 _ _ _ hb
                 have fb4 := frozen_row hb 4
                 skip))
            (try simp only [Exit.inBlock, Exit.then])
            refine post_rtok ha rfl rfl rfl ⟨by simp only [Bool.false_eq_true, if_false, if_neg h32]; rfl, ?_⟩
            exact fr_five (((Fr.alloc (fun _ => False) w _).same (Fr.alloc _ _ _)).same f1) (Nat.le_refl _) _ _ _ _ _
        · go_wp2_with (first
            | (go_at_call 93; refine (kl _).mono ?_; rintro e w' ⟨rfl, rfl⟩)
            | (go_at_call 94; refine (kd _).mono ?_; rintro e w' ⟨rfl, rfl⟩)
            | (go_at_call 85; refine (kr _).mono ?_; rintro e1 W1 ⟨rfl, f1⟩
               have ha : Hidden (W1.heap[w.heap.size]? = some (.cells #[.int .i64 0, .string ⟨#[]⟩, .int .i64 0, .int .u64 0, .int .i64 0] 92 (0, 0))) := f1.heap (heap_alloc2_old _ _ _) (fun f => f)
               have hb : Hidden (W1.heap[w.heap.size + 1]? = some (.cells #[.int .i64 1, .string ⟨x.toArray⟩, .int .i64 0, .int .u64 0, .int .i64 (i : Int)] 92 (0, 0))) := f1.heap (heap_alloc2_new _ _ _) (fun f => f)
               have ca0 : W1.cell? ⟨w.heap.size, 0, none⟩ = some (.int .i64 0) := cell_of_row _ _ 0 _ _ _ ha
               have fa0 := frozen_row ha 0
               have ca1 : W1.cell? ⟨w.heap.size, 1, none⟩ = some (.string ⟨#[]⟩) := cell_of_row _ _ 1 _ _ _ ha
               have fa1 := frozen_row ha 1
               have ca2 : W1.cell? ⟨w.heap.size, 2, none⟩ = some (.int .i64 0) := cell_of_row _ _ 2 _ _ _ ha
               have fa2 := frozen_row ha 2
               have ca3 : W1.cell? ⟨w.heap.size, 3, none⟩ = some (.int .u64 0) := cell_of_row _ _ 3 _ _ _ ha
               have fa3 := frozen_row ha 3
               have ca4 : W1.cell? ⟨w.heap.size, 4, none⟩ = some (.int .i64 0) := cell_of_row _ _ 4 _ _ _ ha
               have fa4 := frozen_row ha 4
               have cb0 : W1.cell? ⟨w.heap.size + 1, 0, none⟩ = some (.int .i64 1) := cell_of_row _ _ 0 _ _ _ hb
               have fb0 := frozen_row hb 0
               have cb1 : W1.cell? ⟨w.heap.size + 1, 1, none⟩ = some (.string ⟨x.toArray⟩) := cell_of_row _ _ 1 _ _ _ hb
               have fb1 := frozen_row hb 1
               have cb2 : W1.cell? ⟨w.heap.size + 1, 2, none⟩ = some (.int .i64 0) := cell_of_row _ _ 2 _ _ _ hb
               have fb2 := frozen_row hb 2
               have cb3 : W1.cell? ⟨w.heap.size + 1, 3, none⟩ = some (.int .u64 0) := cell_of_row _ _ 3 _ _ _ hb
               have fb3 := frozen_row hb 3
               have cb4 : W1.cell? ⟨w.heap.size + 1, 4, none⟩ = some (.int .i64 (i : Int)) := cell_of_row _ _ 4 _ _ _ hb
               have fb4 := frozen_row hb 4
               skip))
          (try simp only [Exit.inBlock, Exit.then])
          refine post_rtok (setOther ha (by omega) _ _) rfl rfl rfl ⟨rfl, ?_⟩
          exact fr_five (fr_one (((Fr.alloc (fun _ => False) w _).same (Fr.alloc _ _ _)).same f1) (by omega) 0 _) (Nat.le_refl _) _ _ _ _ _

/-- next: an error, or the token. -/
theorem rnext_any (l : By) (i k n : Nat) (hi : i < l.length) (hl : l.length ≤ 4096) (h : kindLen wordsL (l.drop i) = (k, n)) (w : World) :
    Calls Tryz.prog 46 #[.string ⟨l.toArray⟩, .int .i64 (i : Int)] w fun r w' => (n = 0 → r = .returned (.tuple #[.agg #[.int .i64 0, .string ⟨#[]⟩, .int .i64 0, .int .u64 0, .int .i64 (i : Int)], .int .i64 10])) ∧ (n ≠ 0 → RTok l i k n r) ∧ Fr (fun _ => False) w w' := by
  obtain ⟨c, hc⟩ : ∃ c, l[i]? = some c := ⟨l[i], List.getElem?_eq_getElem hi⟩
  have hx := str_index l i c hc
  have ed := drop_at hc
  have hcl := class_nat c
  have hle := kind_le wordsL (l.drop i)
  rw [h, List.length_drop] at hle
  have h' := h
  rw [ed, kind_cons, ← ed] at h'
  by_cases hd : dgt c = true
  · rw [if_pos hd] at h'
    have hlt : ltr c = false := by
      simp only [dgt, Bool.and_eq_true, decide_eq_true_eq] at hd
      simp only [ltr, Bool.or_eq_false_iff, Bool.and_eq_false_iff, decide_eq_false_iff_not]
      omega
    have hn0 : n ≠ 0 := by
      intro e
      subst e
      unfold numLen at h'
      have hr1 : 1 ≤ run dgt (l.drop i) := by rw [ed, run_cons, if_pos hd]; omega
      split at h'
      · simp only [Prod.mk.injEq] at h'; omega
      · split at h' <;> (simp only [Prod.mk.injEq] at h'; omega)
    exact (next_num l i c.toNat k n hl hx (hcl.1.trans hlt) (hcl.2.1.trans hd) hi w (fun w => numeral_any l i k n c hc hd hl h' w)).mono fun r w' ⟨h1, h2⟩ => ⟨fun e => absurd e hn0, fun _ => h1, h2⟩
  · rw [if_neg hd] at h'
    have hd' : dgt c = false := by simpa using hd
    by_cases hlt : ltr c = true
    · rw [if_pos hlt] at h'
      simp only [Prod.mk.injEq] at h'
      obtain ⟨h1, h2⟩ := h'
      have hr1 : 1 ≤ run nmB (l.drop i) := by rw [ed, run_cons, if_pos (by simp [nmB, hlt])]; omega
      have hxl : ((l.drop i).take n).length ≤ 4096 := by rw [List.length_take, List.length_drop]; omega
      have := next_name l ((l.drop i).take n) i c.toNat (i + n) (decide ((l.drop i).take n ∈ wordsL)) hl hi (by simp only at hle; omega) (by omega) hx (hcl.1.trans hlt) (by show _ = _; omega) (by show _ = _; rw [show i + n - i = n by omega]) hxl rfl w
      refine this.mono fun r w' ⟨h3, h4⟩ => ⟨fun e => by omega, fun _ => ?_, h4⟩
      rw [h2] at h1
      refine ⟨0, 0, (if decide ((l.drop i).take n ∈ wordsL) = true then 0 else if 32 < ((l.drop i).take n).length then 12 else 0), ?_, ?_, ?_⟩
      · rw [h3, ← h1]
        by_cases hw : (l.drop i).take n ∈ wordsL
        · simp only [decide_eq_true hw, if_true, if_pos hw]; rfl
        · simp only [decide_eq_false hw, Bool.false_eq_true, if_false, if_neg hw]; rfl
      · rw [← h1]
        by_cases hw : (l.drop i).take n ∈ wordsL
        · simp [hw, valS]
        · simp [hw, valS]
      · intro _
        rw [← h1]
        by_cases hw : (l.drop i).take n ∈ wordsL
        · simp [hw, valS]
        · simp [hw, valS]
    · rw [if_neg hlt] at h'
      simp only [Prod.mk.injEq] at h'
      obtain ⟨rfl, h2⟩ := h'
      have hlt' : ltr c = false := by simpa using hlt
      have hm2 : n ≤ 2 := by
        rw [← h2]
        match l.drop i with
        | [] => simp [mkLen]
        | [a] => simp only [mkLen]; split <;> omega
        | a :: b :: r => simp only [mkLen]; repeat' split
                         all_goals omega
      have := next_mark l i c.toNat n hl hi (by simp only at hle; omega) hm2 hx (hcl.1.trans hlt') (hcl.2.1.trans hd') h2 ((l.drop i).take n) rfl w
      refine this.mono fun r w' ⟨h3, h4⟩ => ⟨fun e => ?_, fun e => ?_, h4⟩
      · rcases h3 with ⟨_, h3⟩ | ⟨h3, _⟩
        · exact h3
        · exact absurd e h3
      · rcases h3 with ⟨h3, _⟩ | ⟨_, h3⟩
        · exact absurd h3 e
        · exact ⟨0, 0, 0, h3, by simp [valS], fun _ => by simp [valS]⟩
end Go.Proofs.YteijjaabngkbjaaGreatDoor
