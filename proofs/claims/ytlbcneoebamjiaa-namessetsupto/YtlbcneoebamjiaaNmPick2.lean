/- pick, Minus and Both walked. -/
import Derived.Test.YtlbcneoebamjiaaNmPick
namespace Go.Proofs.Ytlbcneoebamjiaa
open Go.RowKit Go.Sort
set_option linter.unusedSimpArgs false
set_option linter.unusedVariables false

theorem cell_of_new (w : World) (v : Value) (t : TypeId) : (w.alloc (.cells #[v] t)).cell? ⟨w.heap.size, 0, none⟩ = some v := by
  rw [cell_of_row _ _ _ _ _ _ (alloc_new w (.cells #[v] t))]
  rfl
theorem Tn.own {w : World} {B : Nat} {v : Value} {l : List Str} (h : Tn w B v l) (hl : l ≠ []) : ∀ k, v.ownBlock = some k → B ≤ k ∧ k < w.heap.size := by
  obtain ⟨ao, cap, rfl, _, _, _, h4⟩ := h
  intro k hk
  rcases h4 with h4 | ⟨b, off, rfl, hB, hb, _⟩
  · exact absurd h4 hl
  · have : b = k := by simpa [Value.ownBlock] using hk
    subst this
    exact ⟨hB, hb⟩

/-- What pick keeps. -/
def pickS (a b : List Str) (sh : Bool) : List Str := (setS a).filter fun x => !(decide (x ∈ setS b) != sh)

set_option maxHeartbeats 800000 in
theorem pick_any (va vb : Value) (a b : List Str) (sh : Bool) (w : World) (ha : Tl w va a) (hb : Tl w vb b) (la : a.length * 16 ≤ 140737488355328) (lb : b.length * 16 ≤ 140737488355328) :
    Calls Try.prog 40 #[va, vb, .bool sh] w fun e w' => ∃ v', e = .returned v' ∧ Tn w' w.heap.size v' (pickS a b sh) ∧ Fr (fun _ => False) w w' := by
  have f0 : Fr (fun _ => False) w (w.alloc (.cells #[.bool sh] 4)) := Fr.alloc _ _ _
  have k1 := setof_any vb b _ (hb.later f0) lb
  have c0 : Hidden ((w.alloc (.cells #[.bool sh] 4)).cell? ⟨w.heap.size, 0, none⟩ = some (.bool sh)) := cell_of_new w _ _
  have haH : Hidden (Tl w va a) := ha
  have laH : Hidden (a.length * 16 ≤ 140737488355328) := la
  have lbH : Hidden (b.length * 16 ≤ 140737488355328) := lb
  have f0H : Hidden (Fr (fun _ => False) w (w.alloc (.cells #[.bool sh] 4))) := f0
  obtain ⟨ao, ca, rfl, a1, a2, a3, a4⟩ := ha
  obtain ⟨bo, cb, rfl, b1, b2, b3, b4⟩ := hb
  obtain ⟨na, hna⟩ : ∃ n, a.length = n := ⟨_, rfl⟩
  obtain ⟨nb, hnb⟩ : ∃ n, b.length = n := ⟨_, rfl⟩
  rw [hna] at haH a1 ⊢
  rw [hnb] at k1 b1 ⊢
  clear a3 a4 b3 b4 la lb hna hnb f0
  go_enter Try.func40, Try.ntmps40
  go_wp2_with fail
  refine k1.mono ?_
  rintro e w1 ⟨v1, rfl, t1, f1⟩
  obtain ⟨o1, c1, rfl, p1, p2, p3, p4⟩ := id t1
  have t1H : Hidden (Tn w1 (w.alloc (.cells #[.bool sh] 4)).heap.size (.slice o1 (setS b).length c1) (setS b)) := t1
  obtain ⟨n1, hn1⟩ : ∃ n, (setS b).length = n := ⟨_, rfl⟩
  rw [hn1] at t1H p1 ⊢
  clear t1 p3 p4 hn1
  go_wp2_with fail
  have f2 : Fr (fun _ => False) w (w1.alloc (.cells #[.slice o1 n1 c1] 22)) := ((show Fr (fun _ => False) w _ from f0H).same f1).same (Fr.alloc _ _ _)
  have k3 := setof_any _ a _ ((show Tl w _ a from haH).later f2) laH
  refine k3.mono ?_
  rintro e w3 ⟨v3, rfl, t3, f3⟩
  have hlen : (setS a).length < 4611686018427387904 := by
    have := setS_len a
    have : a.length * 16 ≤ 140737488355328 := laH
    omega
  have hlen1 : (setS b).length < 4611686018427387904 := by
    have := setS_len b
    have : b.length * 16 ≤ 140737488355328 := lbH
    omega
  have kd := delete_any v3 (setS a) _ (fun x => decide (x ∈ setS b) != sh) #[.pointer (some ⟨w1.heap.size, 0, none⟩), .pointer (some ⟨w.heap.size, 0, none⟩)] w3 t3 hlen (by
    intro W hW x
    have hs1 : w.heap.size + 1 ≤ w1.heap.size := by have := f1.size; simpa using this
    have hs2 : (w1.alloc (.cells #[.slice o1 n1 c1] 22)).heap.size = w1.heap.size + 1 := by simp
    have hlow : ∀ k, k < w1.heap.size + 1 → ¬ (w1.alloc (.cells #[.slice o1 n1 c1] 22)).heap.size ≤ k := fun k hk h => by rw [hs2] at h; omega
    refine drop_gives w1.heap.size w.heap.size (.slice o1 n1 c1) (setS b) sh x W ?_ ?_ ?_ (setS_ss b) hlen1
    · exact hW.cell (f3.cell (cell_of_new w1 _ _) (fun f => f)) (hlow _ (by show w1.heap.size < _; omega))
    · exact hW.cell (f3.cell ((Fr.alloc (fun _ => False) w1 _).cell (f1.cell c0 (fun f => f)) (fun f => f)) (fun f => f)) (hlow _ (by show w.heap.size < _; omega))
    · have t4 : Tn w3 _ _ _ := ((show Tn w1 _ _ _ from t1H).later (Fr.alloc _ _ (.cells #[.slice o1 n1 c1] 22))).later f3
      by_cases h0 : setS b = []
      · have t5 := t4.tl
        rw [h0] at t5 ⊢
        obtain ⟨ao', cap', e, q1, q2, q3, _⟩ := t5
        exact ⟨ao', cap', e, q1, q2, q3, Or.inl rfl⟩
      · refine t4.tl.keep hW (fun k hk => hlow k ?_)
        have := ((show Tn w1 _ _ _ from t1H).own h0 k hk).2
        omega)
  obtain ⟨o3, c3, rfl, q1, q2, q3, q4⟩ := id t3
  obtain ⟨n3, hn3⟩ : ∃ n, (setS a).length = n := ⟨_, rfl⟩
  rw [hn3] at kd q1 ⊢
  clear k1 k3 t3 q3 q4 hn3 hlen hlen1
  go_wp2_with (go_at_call 52; refine kd.mono ?_; rintro e w5 ⟨v5, rfl, t5, f5⟩)
  go_ret
  refine ⟨v5, rfl, t5.lower ?_, (f2.same f3).over f5 (fun k hk => ?_)⟩
  · have := f2.size; omega
  · have := f2.size; omega

theorem both_eq (a b : List Str) : pickS a b true = bothS a b := by
  unfold pickS bothS
  congr 1
  funext x
  simp [mem_setS]
theorem minus_eq (a b : List Str) : pickS a b false = minusS a b := by
  unfold pickS minusS
  congr 1
  funext x
  simp [mem_setS]
theorem minus_any (va vb : Value) (a b : List Str) (w : World) (ha : Tl w va a) (hb : Tl w vb b) (la : a.length * 16 ≤ 140737488355328) (lb : b.length * 16 ≤ 140737488355328) :
    Calls Try.prog 23 #[va, vb] w fun e w' => ∃ v', e = .returned v' ∧ Tn w' w.heap.size v' (minusS a b) ∧ Fr (fun _ => False) w w' := by
  have k := pick_any va vb a b false w ha hb la lb
  rw [minus_eq] at k
  obtain ⟨ao, ca, rfl, a1, a2, a3, a4⟩ := ha
  obtain ⟨bo, cb, rfl, b1, b2, b3, b4⟩ := hb
  obtain ⟨na, hna⟩ : ∃ n, a.length = n := ⟨_, rfl⟩
  obtain ⟨nb, hnb⟩ : ∃ n, b.length = n := ⟨_, rfl⟩
  rw [hna, hnb] at k ⊢
  rw [hna] at a1
  rw [hnb] at b1
  clear a3 a4 b3 b4 la lb hna hnb
  go_enter Try.func23, Try.ntmps23
  go_wp2_with (go_at_call 40; refine k.mono ?_; rintro e w1 ⟨v1, rfl, t1, f1⟩)
  go_ret
  exact ⟨v1, rfl, t1, f1⟩
theorem both_any (va vb : Value) (a b : List Str) (w : World) (ha : Tl w va a) (hb : Tl w vb b) (la : a.length * 16 ≤ 140737488355328) (lb : b.length * 16 ≤ 140737488355328) :
    Calls Try.prog 25 #[va, vb] w fun e w' => ∃ v', e = .returned v' ∧ Tn w' w.heap.size v' (bothS a b) ∧ Fr (fun _ => False) w w' := by
  have k := pick_any va vb a b true w ha hb la lb
  rw [both_eq] at k
  obtain ⟨ao, ca, rfl, a1, a2, a3, a4⟩ := ha
  obtain ⟨bo, cb, rfl, b1, b2, b3, b4⟩ := hb
  obtain ⟨na, hna⟩ : ∃ n, a.length = n := ⟨_, rfl⟩
  obtain ⟨nb, hnb⟩ : ∃ n, b.length = n := ⟨_, rfl⟩
  rw [hna, hnb] at k ⊢
  rw [hna] at a1
  rw [hnb] at b1
  clear a3 a4 b3 b4 la lb hna hnb
  go_enter Try.func25, Try.ntmps25
  go_wp2_with (go_at_call 40; refine k.mono ?_; rintro e w1 ⟨v1, rfl, t1, f1⟩)
  go_ret
  exact ⟨v1, rfl, t1, f1⟩
end Go.Proofs.Ytlbcneoebamjiaa
