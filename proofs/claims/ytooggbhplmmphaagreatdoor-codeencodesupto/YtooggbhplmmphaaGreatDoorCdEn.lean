/- The document's Encode of instructions. -/
import Derived.Test.YtooggbhplmmphaaGreatDoorCdEb
import Derived.Test.YtooggbhplmmphaaGreatDoorCdAq
namespace Go.Proofs.YtooggbhplmmphaaGreatDoor.Cd
open Go.RowKit Ty
set_option linter.unusedSimpArgs false
set_option linter.unusedVariables false

set_option maxRecDepth 20000 in
set_option maxHeartbeats 4000000 in
theorem rencode_any (ao : Option Addr) (cap : Nat) (l : List In) (w : World) (h : IL w ao cap l) (hok : ∀ i ∈ l, U64 i.b) :
    Calls Tryz.prog 6 #[.slice ao l.length cap] w fun e w' => ∃ v, e = .returned (.tuple #[v, ci (encA l).1]) ∧ Bw w' w.heap.size v (encA l).2 ∧ Fr (fun _ => False) w w' := by
  obtain ⟨n, hn⟩ : ∃ n, n = l.length := ⟨_, rfl⟩
  obtain ⟨R, hR⟩ : ∃ R, R = encA l := ⟨_, rfl⟩
  rw [← hn, ← hR]
  have hil : Hidden (IL w ao cap l) := h
  have hcap : n ≤ cap := by rw [hn]; exact h.1
  have hcm : cap ≤ 9223372036854775807 := by have := h.2.1; simpa [maxLen] using this
  have hnH : Hidden (n = l.length) := hn
  have hRH : Hidden (R = encA l) := hR
  have hokH : Hidden (∀ i ∈ l, U64 i.b) := hok
  clear hn hR h hok
  by_cases h4 : 4096 < n
  · have h4b : decide (4096 < (n : Int)) = true := by simp; omega
    go_enter Tryz.func6, Tryz.ntmps6
    go_wp2_with fail
    go_ret2
    have e : R = (3, []) := by rw [show R = encA l from hRH]; unfold encA; rw [if_pos (by rw [← (show n = l.length from hnH)]; exact h4)]
    exact ⟨_, (by rw [e]; rfl), by rw [e]; exact Bw.nil _ _, Fr.refl _ _⟩
  · have h4b : decide (4096 < (n : Int)) = false := by simp; omega
    go_enter Tryz.func6, Tryz.ntmps6
    go_wp2_with fail
    go_loopg [4, 5] n (fun k v iv wr => ∃ j : Nat, iv = .int .i64 (j : Int) ∧ j ≤ n ∧ k = n - j ∧ (∀ i ∈ l.take j, rightS i = true) ∧ Bw wr w.heap.size v (encS (l.take j)) ∧ Ap w wr (.slice none 0 0) v)
    case atStart =>
      exact ⟨0, rfl, by omega, by omega, by simp, Bw.nil _ _, Ap.refl _ _⟩
    case round =>
      obtain ⟨j, rfl, hj, hk, hall, hbw, hap⟩ := hrel
      have hH : Hidden ((∀ i ∈ l.take j, rightS i = true) ∧ Bw wr w.heap.size u4 (encS (l.take j)) ∧ Ap w wr (.slice none 0 0) u4) := ⟨hall, hbw, hap⟩
      clear hall hbw hap
      by_cases hjn : j = n
      · subst hjn
        go_wp2_with fail
        go_ret2
        obtain ⟨hall, hbw, hap⟩ := hH
        have hnn : j = l.length := hnH
        have e : R = (0, encS l) := by
          rw [show R = encA l from hRH]
          unfold encA
          rw [if_neg (by omega), if_pos]
          rw [hnn, List.take_length] at hall
          exact List.all_eq_true.2 hall
        rw [hnn, List.take_length] at hbw
        exact ⟨_, (by rw [e]; rfl), by rw [e]; exact hbw, hap.none⟩
      · have hlt : j < n := by omega
        obtain ⟨x, hx⟩ : ∃ x, l[j]? = some x := ⟨_, List.getElem?_eq_getElem (by have : n = l.length := hnH; omega)⟩
        have hxm : x ∈ l := List.mem_of_getElem? hx
        have hxb := (show ∀ i ∈ l, U64 i.b from hokH) x hxm
        have hxH : Hidden (l[j]? = some x) := hx
        obtain ⟨bl, off, hao, hcells⟩ := (show IL w ao cap l from hil).2.2.2.resolve_left (by rintro rfl; simp at hx)
        have fwr : Fr (fun _ => False) w wr := hH.2.2.none
        obtain ⟨c0, c1, c2, c3⟩ := IL.at' (cap := cap) (fun i x hx j u hu => fwr.cellN (hcells i x hx j u hu)) hx
        subst hao
        obtain ⟨L, hL⟩ : ∃ L, L = encS (l.take j) := ⟨_, rfl⟩
        have hLl : L.length ≤ 100000 := by
          have := encS_len (l.take j)
          rw [← hL, List.length_take] at this
          omega
        have kr := fun w => rright_any x hxb w
        have hszr : w.heap.size ≤ wr.heap.size := fwr.size
        clear hx hlt hxm
        by_cases hrx : rightS x = true
        · have hrxH : Hidden (rightS x = true) := hrx
          rw [hrx] at kr
          have hbw : Hidden (Bw wr w.heap.size u4 L) := by rw [hL]; exact hH.2.1
          have hLH : Hidden (L = encS (l.take j)) := hL
          clear hL
          have kaW := fun W => rbytes_any x hrx hxb W
          have hszrH : Hidden (w.heap.size ≤ wr.heap.size) := hszr
          have hLl1 : Hidden (L.length ≤ 100000) := hLl
          have hlow : Hidden (∀ k, u4.ownBlock = some k → w.heap.size ≤ k ∧ k < wr.heap.size) := own_block (show Bw wr _ u4 L from hbw)
          have hbl : bl < w.heap.size := World.block_lt_of_cell? w _ (hcells j x (show l[j]? = _ from hxH) 0 _ rfl)
          have hblH : Hidden (bl < w.heap.size) := hbl
          clear hrx fwr hbl hLl
          obtain ⟨op, nn, t, b⟩ := x
          simp only [] at c0 c1 c2 c3
          go_wp2_with fail
          go_at_call 14
          refine (kr _).mono ?_
          rintro e W1 ⟨rfl, f1⟩
          have d0 := f1.cellN c0
          have d1 := f1.cellN c1
          have d2 := f1.cellN c2
          have d3 := f1.cellN c3
          have f1H : Hidden (Fr (fun _ => False) wr W1) := f1
          clear c0 c1 c2 c3 f1
          go_wp2_with fail
          go_at_call 15
          refine (kaW _).mono ?_
          rintro e W2 ⟨bv, rfl, hb2, f2⟩
          obtain ⟨bo, bc, rfl, hbl2⟩ := hb2.bl
          have hcs := hbl2.cells
          have hcsH : Hidden _ := hcs
          have hrow2 : Hidden (Bw W2 w.heap.size u4 L) := (show Bw wr _ u4 L from hbw).keepN ((show Fr (fun _ => False) wr W1 from f1H).same f2)
          have hsz2 : Hidden (w.heap.size ≤ W2.heap.size) := Nat.le_trans hszrH ((show Fr (fun _ => False) wr W1 from f1H).same f2).size
          have f12H : Hidden (Fr (fun _ => False) wr W2) := (show Fr (fun _ => False) wr W1 from f1H).same f2
          obtain ⟨EI, hEI⟩ : ∃ EI, encI ⟨op, nn, t, b⟩ = EI := ⟨_, rfl⟩
          have hEIH : Hidden (encI ⟨op, nn, t, b⟩ = EI) := hEI
          have hEl : EI.length ≤ 10 := by
            rw [← hEI]
            have := encS_len [(⟨op, nn, t, b⟩ : In)]
            simpa [encS] using this
          have hElH : Hidden (EI.length ≤ 10) := hEl
          rw [hEI] at hcsH ⊢
          clear f2 hb2 hbl2 hcs hEI hEl d0 d1 d2 d3
          go_wp2_with (at_builtin
                       refine wpl_app rfl _ _ 25 5 (.int .u8 0) 1 1 Tryz.underlying25 info_u8 rfl (by decide) rfl w.heap.size u4 L.length (byC L) bo EI.length bc (byC EI) rfl ?c0 rfl ?c1 ?c2 ?c3 ?c4 ?c5 ?c6 ?c7 ?_
                       case c0 => exact hrow2
                       case c1 => rw [byC_len, Nat.mul_one]
                       case c2 => exact hcsH.1
                       case c3 => exact hcsH.2
                       case c4 => exact byC_one EI
                       case c5 => have h1 : L.length ≤ 100000 := hLl1; have h2 : EI.length ≤ 10 := hElH; simp only [maxLen]; omega
                       case c6 => have h1 : L.length ≤ 100000 := hLl1; have h2 : EI.length ≤ 10 := hElH; omega
                       case c7 => exact hsz2
                       intro v3 W3 r3 f3 o3
                       have hr2 : Hidden (Bw W3 w.heap.size v3 (L ++ EI)) := by
                         show W3.ownsRow _ _ 1 v3 (L ++ EI).length (byC (L ++ EI))
                         rw [List.length_append, byC_app]
                         exact r3
                       have a3 : Hidden (Ap wr W3 u4 v3) := Ap.after (show Fr (fun _ => False) wr W2 from f12H) (Ap.of f3 o3)
                       clear r3 f3 o3)
          go_roundg (n - (j + 1))
          case measure => omega
          case rel =>
            obtain ⟨hall, hbw', hap⟩ := hH
            refine ⟨j + 1, by go_num, by omega, rfl, ?_, ?_, hap.trans a3⟩
            · rw [take_snoc (show l[j]? = _ from hxH)]
              intro i hi
              rcases List.mem_append.1 hi with hi | hi
              · exact hall i hi
              · simp at hi; subst hi; exact hrxH
            · rw [take_snoc (show l[j]? = _ from hxH), encS_snoc, ← (show L = _ from hLH), show encI _ = EI from hEIH]
              exact hr2
        · have hrf : rightS x = false := by simpa using hrx
          have hrxH : Hidden (rightS x = false) := hrf
          clear hrf
          rw [show rightS x = false from hrxH] at kr
          clear hrx hL hLl fwr
          obtain ⟨op, nn, t, b⟩ := x
          simp only [] at c0 c1 c2 c3
          go_wp2_with (first
            | (go_at_call 14; refine (kr _).mono ?_; rintro e W1 ⟨rfl, f1⟩))
          go_ret2
          have e : R = (51, []) := by
            rw [show R = encA l from hRH]
            unfold encA
            rw [if_neg (by have : n = l.length := hnH; omega), if_neg]
            intro hall
            have := List.all_eq_true.1 hall _ (List.mem_of_getElem? (show l[j]? = _ from hxH))
            rw [show rightS _ = false from hrxH] at this
            cases this
          exact ⟨_, (by rw [e]; rfl), by rw [e]; exact Bw.nil _ _, hH.2.2.none.same f1⟩
end Go.Proofs.YtooggbhplmmphaaGreatDoor.Cd
