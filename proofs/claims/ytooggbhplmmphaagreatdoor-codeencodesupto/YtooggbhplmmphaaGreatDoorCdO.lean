/- The program's Encode. -/
import Derived.Test.YtooggbhplmmphaaGreatDoorCdN
namespace Go.Proofs.YtooggbhplmmphaaGreatDoor.Cd
open Go.RowKit Ty
set_option linter.unusedSimpArgs false
set_option linter.unusedVariables false

theorem encS_len : ∀ (l : List In), (encS l).length ≤ l.length * 10
  | [] => by simp [encS]
  | i :: l => by
    have := encS_len l
    have e : encS (i :: l) = encI i ++ encS l := by simp [encS]
    rw [e, List.length_append, List.length_cons]
    have : (encI i).length ≤ 10 := by
      unfold encI
      rw [List.length_cons]
      split
      · rw [List.length_cons, be_len]; omega
      · rw [be_len]; have := wd_le i.op; omega
    omega
theorem encS_snoc (l : List In) (i : In) : encS (l ++ [i]) = encS l ++ encI i := by simp [encS]
theorem take_snoc {α : Type} {l : List α} {j : Nat} {x : α} (h : l[j]? = some x) : l.take (j + 1) = l.take j ++ [x] := by
  rw [List.take_add_one, h]; rfl
set_option maxRecDepth 20000 in
set_option maxHeartbeats 1000000 in
theorem encode_any (ao : Option Addr) (cap : Nat) (l : List In) (w : World) (h : IL w ao cap l) (hok : ∀ i ∈ l, U64 i.b) :
    Calls Tryz.prog 5 #[.slice ao l.length cap] w fun e w' => ∃ v, e = .returned (.tuple #[v, ci (encA l).1]) ∧ Bw w' w.heap.size v (encA l).2 ∧ Fr (fun _ => False) w w' := by
  obtain ⟨n, hn⟩ : ∃ n, n = l.length := ⟨_, rfl⟩
  obtain ⟨R, hR⟩ : ∃ R, R = encA l := ⟨_, rfl⟩
  rw [← hn, ← hR]
  have hil : Hidden (IL w ao cap l) := h
  have hcap : n ≤ cap := by rw [hn]; exact h.1
  have hcm : cap ≤ 9223372036854775807 := by have := h.2.1; simpa [maxLen] using this
  have hnH : Hidden (n = l.length) := hn
  have hRH : Hidden (R = encA l) := hR
  have hokH : Hidden (∀ i ∈ l, U64 i.b) := hok
  clear hn hR h hok
  by_cases h4 : 4096 < n
  · have h4b : decide (4096 < (n : Int)) = true := by simp; omega
    go_enter Tryz.func5, Tryz.ntmps5
    go_wp2_with fail
    go_ret2
    have e : R = (3, []) := by rw [show R = encA l from hRH]; unfold encA; rw [if_pos (by rw [← (show n = l.length from hnH)]; exact h4)]
    exact ⟨_, (by rw [e]; rfl), by rw [e]; exact Bw.nil _ _, Fr.refl _ _⟩
  · have h4b : decide (4096 < (n : Int)) = false := by simp; omega
    go_enter Tryz.func5, Tryz.ntmps5
    go_wp2_with fail
    go_loopg [4, 12] n (fun k v iv wr => ∃ j : Nat, iv = .int .i64 (j : Int) ∧ j ≤ n ∧ k = n - j ∧ (∀ i ∈ l.take j, rightS i = true) ∧ Bw wr w.heap.size v (encS (l.take j)) ∧ Ap w wr (.slice none 0 0) v)
    case atStart =>
      exact ⟨0, rfl, by omega, by omega, by simp, Bw.nil _ _, Ap.refl _ _⟩
    case round =>
      obtain ⟨j, rfl, hj, hk, hall, hbw, hap⟩ := hrel
      have hH : Hidden ((∀ i ∈ l.take j, rightS i = true) ∧ Bw wr w.heap.size u4 (encS (l.take j)) ∧ Ap w wr (.slice none 0 0) u4) := ⟨hall, hbw, hap⟩
      clear hall hbw hap
      by_cases hjn : j = n
      · subst hjn
        go_wp2_with fail
        go_ret2
        obtain ⟨hall, hbw, hap⟩ := hH
        have hnn : j = l.length := hnH
        have e : R = (0, encS l) := by
          rw [show R = encA l from hRH]
          unfold encA
          rw [if_neg (by omega), if_pos]
          rw [hnn, List.take_length] at hall
          exact List.all_eq_true.2 hall
        rw [hnn, List.take_length] at hbw
        exact ⟨_, (by rw [e]; rfl), by rw [e]; exact hbw, hap.none⟩
      · have hlt : j < n := by omega
        obtain ⟨x, hx⟩ : ∃ x, l[j]? = some x := ⟨_, List.getElem?_eq_getElem (by have : n = l.length := hnH; omega)⟩
        have hxm : x ∈ l := List.mem_of_getElem? hx
        have hxb := (show ∀ i ∈ l, U64 i.b from hokH) x hxm
        have hxH : Hidden (l[j]? = some x) := hx
        obtain ⟨bl, off, hao, hcells⟩ := (show IL w ao cap l from hil).2.2.2.resolve_left (by rintro rfl; simp at hx)
        have fwr : Fr (fun _ => False) w wr := hH.2.2.none
        obtain ⟨c0, c1, c2, c3⟩ := IL.at' (cap := cap) (fun i x hx j u hu => fwr.cellN (hcells i x hx j u hu)) hx
        subst hao
        obtain ⟨L, hL⟩ : ∃ L, L = encS (l.take j) := ⟨_, rfl⟩
        have hLl : L.length ≤ 100000 := by
          have := encS_len (l.take j)
          rw [← hL, List.length_take] at this
          omega
        have kr := fun w => right_any x hxb w
        have hszr : w.heap.size ≤ wr.heap.size := fwr.size
        clear hx hcells hlt hxm
        by_cases hrx : rightS x = true
        · have hrxH : Hidden (rightS x = true) := hrx
          rw [hrx] at kr
          have hbw : Hidden (Bw wr w.heap.size u4 L) := by rw [hL]; exact hH.2.1
          have hLH : Hidden (L = encS (l.take j)) := hL
          clear hL
          have kaW : ∀ W, Fr (fun _ => False) wr W → Calls Tryz.prog 13 #[u4, inV x] W fun e w' => ∃ v', e = .returned v' ∧ Bw w' w.heap.size v' (L ++ encI x) ∧ Ap W w' u4 v' := fun W hW => apins_any w.heap.size u4 L x hrx hxb hLl W ((show Bw wr _ u4 L from hbw).keepN hW) (Nat.le_trans hszr hW.size)
          clear hrx fwr
          obtain ⟨op, nn, t, b⟩ := x
          simp only [] at c0 c1 c2 c3
          go_wp2_with (first
            | (go_at_call 12; refine (kr _).mono ?_; rintro e W1 ⟨rfl, f1⟩; obtain ⟨d0, d1, d2, d3⟩ := box4_fr f1)
            | (go_at_call 13; refine (kaW W1 ((Fr.alloc _ _ _).same f1)).mono ?_; rintro e W2 ⟨v2, rfl, hr2, a2⟩))
          go_roundg (n - (j + 1))
          case measure => omega
          case rel =>
            obtain ⟨hall, hbw', hap⟩ := hH
            refine ⟨j + 1, by go_num, by omega, rfl, ?_, ?_, hap.trans (Ap.after ((Fr.alloc _ _ _).same f1) a2)⟩
            · rw [take_snoc (show l[j]? = _ from hxH)]
              intro i hi
              rcases List.mem_append.1 hi with hi | hi
              · exact hall i hi
              · simp at hi; subst hi; exact hrxH
            · rw [take_snoc (show l[j]? = _ from hxH), encS_snoc, ← (show L = _ from hLH)]
              exact hr2
        · have hrf : rightS x = false := by simpa using hrx
          have hrxH : Hidden (rightS x = false) := hrf
          clear hrf
          rw [show rightS x = false from hrxH] at kr
          clear hrx hL hLl fwr
          obtain ⟨op, nn, t, b⟩ := x
          simp only [] at c0 c1 c2 c3
          go_wp2_with (first
            | (go_at_call 12; refine (kr _).mono ?_; rintro e W1 ⟨rfl, f1⟩; obtain ⟨d0, d1, d2, d3⟩ := box4_fr f1))
          go_ret2
          have e : R = (51, []) := by
            rw [show R = encA l from hRH]
            unfold encA
            rw [if_neg (by have : n = l.length := hnH; omega), if_neg]
            intro hall
            have := List.all_eq_true.1 hall _ (List.mem_of_getElem? (show l[j]? = _ from hxH))
            rw [show rightS _ = false from hrxH] at this
            cases this
          exact ⟨_, (by rw [e]; rfl), by rw [e]; exact Bw.nil _ _, hH.2.2.none.same ((Fr.alloc _ _ _).same f1)⟩
end Go.Proofs.YtooggbhplmmphaaGreatDoor.Cd
