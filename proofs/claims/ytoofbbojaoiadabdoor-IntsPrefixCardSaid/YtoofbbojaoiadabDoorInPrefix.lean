/- IntsPrefix walked: the sum of a list is that of its beginning, and then of the rest. -/
import Derived.Test.YtoofbbojaoiadabDoorInSum
import Derived.Test.YtoofbbojaoiadabDoorInSlice
import Derived.Below
import Derived.Laws.OwnMore
import Derived.Laws.AppendOwnNone
namespace Go.Proofs.YtoofbbojaoiadabDoor
open Go.RowKit Go.WideShapes
set_option linter.unusedSimpArgs false
set_option linter.unusedVariables false

theorem sumS_shift : ∀ (y : List Int) (s : Int), I64 s → (∃ v, I64 v ∧ ∀ i, sumS y s i = (v, 0, 0)) ∨ (∃ j : Nat, j < y.length ∧ ∀ i, sumS y s i = (0, i + (j : Int), 80)) := by
  intro y
  induction y with
  | nil => intro s hs; exact Or.inl ⟨s, hs, fun i => rfl⟩
  | cons x r ih =>
    intro s hs
    cases h : fit (s + x)
    · refine Or.inr ⟨0, by simp, fun i => ?_⟩
      simp [sumS, h]
    · rcases ih (s + x) ((fit_iff _).1 h) with ⟨v, hv, h1⟩ | ⟨j, hj, h1⟩
      · exact Or.inl ⟨v, hv, fun i => by simp only [sumS, h, if_true]; exact h1 _⟩
      · refine Or.inr ⟨j + 1, by simp; omega, fun i => ?_⟩
        simp only [sumS, h, if_true]
        rw [h1]
        congr 2
        omega
theorem sumS_append : ∀ (x y : List Int) (s i : Int), (∀ v, sumS x s i = (v, 0, 0) → sumS (x ++ y) s i = sumS y v (i + x.length)) ∧ (∀ v p e, sumS x s i = (v, p, e) → e ≠ 0 → sumS (x ++ y) s i = (v, p, e)) := by
  intro x y
  induction x with
  | nil =>
    intro s i
    constructor
    · intro v h
      simp only [sumS, Prod.mk.injEq, and_true] at h
      subst h
      simp
    · intro v p e h he
      simp only [sumS, Prod.mk.injEq] at h
      omega
  | cons z r ih =>
    intro s i
    cases h : fit (s + z)
    · constructor
      · intro v hv
        simp [sumS, h] at hv
      · intro v p e hv he
        simp only [sumS, h, List.cons_append] at hv ⊢
        exact hv
    · obtain ⟨i1, i2⟩ := ih (s + z) (i + 1)
      simp only [sumS, h, if_true, List.cons_append]
      refine ⟨fun v hv => ?_, i2⟩
      rw [i1 v hv]
      congr 1
      simp
      omega

/-- All that IntsPrefix asks of three sums. -/
theorem prefix_math (x y : List Int) : 
    (∃ p : Int, sumS x 0 0 = (0, p, 80) ∧ sumS (x ++ y) 0 0 = (0, p, 80) ∧ 0 ≤ p ∧ p < x.length) ∨
    (∃ a, I64 a ∧ sumS x 0 0 = (a, 0, 0) ∧ ((∃ v, sumS (x ++ y) 0 0 = (v, 0, 0) ∧ sumS (a :: y) 0 0 = (v, 0, 0)) ∨ (∃ j : Nat, j < y.length ∧ sumS (x ++ y) 0 0 = (0, (x.length : Int) + j, 80) ∧ sumS (a :: y) 0 0 = (0, 1 + (j : Int), 80)))) := by
  have h0 : I64 0 := ⟨by omega, by omega⟩
  rcases sumS_shift x 0 h0 with ⟨a, ha, h1⟩ | ⟨j, hj, h1⟩
  · right
    refine ⟨a, ha, h1 0, ?_⟩
    have h2 := (sumS_append x y 0 0).1 a (h1 0)
    have h3 : ∀ i, sumS (a :: y) 0 i = sumS y a (i + 1) := by
      intro i
      have : fit a = true := (fit_iff a).2 ha
      simp only [sumS, Int.zero_add, this, if_true]
    rw [h2, h3]
    rcases sumS_shift y a ha with ⟨v, hv, h4⟩ | ⟨j, hj, h4⟩
    · left; exact ⟨v, h4 _, h4 _⟩
    · right
      refine ⟨j, hj, ?_, ?_⟩
      · rw [h4]; congr 2; omega
      · rw [h4]; congr 2
  · left
    refine ⟨(j : Int), ?_, ?_, by omega, by omega⟩
    · rw [h1]; congr 2; omega
    · rw [(sumS_append x y 0 0).2 _ _ _ (h1 0) (by omega)]; congr 2; omega

theorem Tryd.info_i64 : (Tryd.prog.info? 2).map (fun i => (i.zero, i.size, i.bytes)) = some (some (.int .i64 0), 1, 8) := by kernel_rfl

theorem prefix_out (v : Value) (len : Nat) (ao : Option Addr) (cap : Nat) (c : Int) (hv : v = .slice ao len cap) (hc : c < 0 ∨ (¬ c < 0 ∧ (len : Int) < c)) (hl : len ≤ 9223372036854775807) (w : World) (ht : Tab w) :
    Calls Tryd.prog 5 #[v, .int .i64 c] w fun e w' => e = .returned (.bool true) ∧ Kb w w' := by
  subst hv
  have kl := live_any w ht
  rcases hc with hc | ⟨hc, hc2⟩
  all_goals
    go_enter Tryd.func5, Tryd.ntmps5
    go_wp2_with (go_at_call 6; refine kl.mono ?_; rintro e w1 ⟨rfl, g1⟩)
    go_ret
    exact ⟨rfl, g1⟩

/-- The sums that IntsPrefix takes, and how they hang together. -/
def Trio (x : List Int) (a i e b k f : Int) (y : List Int) (c n g : Int) : Prop :=
  sumS x 0 0 = (a, i, e) ∧ sumS (x ++ y) 0 0 = (b, k, f) ∧ (e = 80 ∧ f = 80 ∧ i = k ∧ a = 0 ∧ b = 0 ∧ 0 ≤ i ∧ i < x.length ∨
    e = 0 ∧ i = 0 ∧ I64 a ∧ sumS (a :: y) 0 0 = (c, n, g) ∧ (g = 0 ∧ f = 0 ∧ b = c ∧ k = 0 ∨ g = 80 ∧ f = 80 ∧ k = x.length + n - 1 ∧ 1 ≤ n ∧ n ≤ y.length))
theorem trio_of (x y : List Int) : ∃ a i e b k f c n g, Trio x a i e b k f y c n g := by
  rcases prefix_math x y with ⟨p, h1, h2, h3, h4⟩ | ⟨a, ha, h1, ⟨v, h2, h3⟩ | ⟨j, hj, h2, h3⟩⟩
  · exact ⟨0, p, 80, 0, p, 80, 0, 0, 0, h1, h2, Or.inl ⟨rfl, rfl, rfl, rfl, rfl, h3, h4⟩⟩
  · exact ⟨a, 0, 0, v, 0, 0, v, 0, 0, h1, h2, Or.inr ⟨rfl, rfl, ha, h3, Or.inl ⟨rfl, rfl, rfl, rfl⟩⟩⟩
  · exact ⟨a, 0, 0, 0, _, 80, 0, _, 80, h1, h2, Or.inr ⟨rfl, rfl, ha, h3, Or.inr ⟨rfl, rfl, by omega, by omega, by omega⟩⟩⟩

theorem own_row (w w2 : World) (o : Obj) (v' : Value) (n : Nat) (l : List Int) (hlen : l.length = n) (hown : w2.ownsRow w.heap.size 2 1 v' n (l.map fun x => .int .i64 x))
    (hg : (w.alloc o).grownBy w2 (some w.heap.size)) (hne : ¬ v' = .slice none 0 0) :
    ∃ g cap2, v' = .slice (some ⟨g, 0, none⟩) n cap2 ∧ (∀ (i : Nat) (x : Int), l[i]? = some x → w2.cell? ⟨g, 0 + i, none⟩ = some (.int .i64 x)) ∧ Kb w w2 := by
  have hB : Below w.heap.size w w2 := ((Below.refl _ _).alloc (Nat.le_refl _) _).grown hg (by simp) (fun k hk => by simp at hk; omega)
  rcases hown.2 with ⟨h, _⟩ | ⟨g, cap2, cur, hv, _⟩
  · exact absurd h hne
  subst hv
  refine ⟨g, cap2, rfl, fun i x hx => ?_, Kb.of_below hB⟩
  obtain ⟨hi, _⟩ := List.getElem?_eq_some_iff.1 hx
  rw [Nat.zero_add, hown.cellAt i (by omega), List.getElem?_map, hx]
  rfl
theorem own_one (w : World) (a : Int) : (w.alloc (.cells #[.int .i64 a] 2)).ownsRow w.heap.size 2 1 (.slice (some ⟨w.heap.size, 0, none⟩) 1 1) 1 [.int .i64 a] :=
  ⟨rfl, Or.inr ⟨w.heap.size, 1, #[.int .i64 a], rfl, Nat.le_refl _, by show (w.heap.push _)[w.heap.size]? = _; simp, Nat.le_refl _, by unfold maxLen; omega, rfl, rfl⟩⟩

/-- What is told in the end, where the beginning's sum is one. -/
def Fin (c len : Nat) (bb k f cc n g : Int) : Prop := g = 0 ∧ f = 0 ∧ bb = cc ∧ k = 0 ∨ g = 80 ∧ f = 80 ∧ k = (c : Int) + n - 1 ∧ 1 ≤ n ∧ n ≤ ((len - c : Nat) : Int)

set_option maxRecDepth 20000 in
set_option maxHeartbeats 2000000 in
theorem prefix_some (b off cap len c : Nat) (l : List Int) (a i e bb k f cc n g : Int) (hlen : Hidden (l.length = len)) (hT : Hidden (Trio (l.take c) a i e bb k f (l.drop c) cc n g)) (hcl : c ≤ len) (hlc : len ≤ cap) (hcap : cap ≤ 9223372036854775807) (hb8 : len * 8 ≤ 140737488351232) (hI : Hidden (∀ x ∈ l, I64 x)) (w : World) (hbw : b < w.heap.size)
    (hc : Hidden (∀ (i : Nat) (x : Int), l[i]? = some x → w.cell? ⟨b, off + i, none⟩ = some (.int .i64 x))) (ht : Tab w) :
    Calls Tryd.prog 5 #[.slice (some ⟨b, off, none⟩) len cap, .int .i64 (c : Int)] w fun e w' => e = .returned (.bool true) ∧ Kb w w' := by
  have kl := live_any w ht
  have hlen' : l.length = len := hlen
  have t1 : Hidden (sumS (l.take c) 0 0 = (a, i, e)) := hT.1
  have t2 : Hidden (sumS l 0 0 = (bb, k, f)) := by
    have := (show Trio _ _ _ _ _ _ _ _ _ _ _ from hT).2.1
    rw [List.take_append_drop] at this
    exact this
  have hxl : Hidden ((l.take c).length = c) := by show _ = _; rw [List.length_take]; omega
  have hxI : Hidden (∀ x ∈ l.take c, I64 x) := fun x hx => (show ∀ x ∈ l, I64 x from hI) x (List.mem_of_mem_take hx)
  have hyl : Hidden ((l.drop c).length = len - c) := by show _ = _; rw [List.length_drop]; omega
  have hcells : ∀ W, Kb w W → Hidden (∀ (i : Nat) (x : Int), l[i]? = some x → W.cell? ⟨b, off + i, none⟩ = some (.int .i64 x)) := fun W hk i x hx => kb_cell hk ((show ∀ (i : Nat) (x : Int), l[i]? = some x → w.cell? ⟨b, off + i, none⟩ = some (.int .i64 x) from hc) i x hx)
  have htake : ∀ W, Kb w W → Hidden (∀ (i : Nat) (x : Int), (l.take c)[i]? = some x → W.cell? ⟨b, off + i, none⟩ = some (.int .i64 x)) := by
    intro W hk i x hx
    rw [List.getElem?_take] at hx
    split at hx
    · exact hcells W hk i x hx
    · cases hx
  clear hlen'
  rcases (show Trio _ _ _ _ _ _ _ _ _ _ _ from hT).2.2 with ⟨rfl, rfl, rfl, rfl, rfl, hi0, hi1⟩ | ⟨rfl, rfl, ha, t3, hfin⟩
  · rw [show (l.take c).length = c from hxl] at hi1
    go_enter Tryd.func5, Tryd.ntmps5
    go_wp2_with (first
      | (go_at_call 6; refine kl.mono ?_; rintro e w1 ⟨rfl, g1⟩; have k1 := sum_walk b off cap c (l.take c) _ _ _ hxl t1 (by omega) hxI w1 (htake w1 g1); have k2 := sum_walk b off cap len l _ _ _ hlen t2 (by omega) hI w1 (hcells w1 g1))
      | (go_at_call 11; first | (refine k1.mono ?_; rintro e w' ⟨rfl, rfl⟩; clear k1) | (refine k2.mono ?_; rintro e w' ⟨rfl, rfl⟩)))
    go_ret
    exact ⟨rfl, g1⟩
  · have ht3 : Hidden (sumS (a :: l.drop c) 0 0 = (cc, n, g)) := t3
    clear t3
    obtain ⟨i0, hi, hz0, hz1, hz2⟩ := info_parts Tryd.info_i64
    have hfinH : Hidden (Fin c len bb k f cc n g) := by
      rw [show (l.take c).length = c from hxl, show (l.drop c).length = len - c from hyl] at hfin
      exact hfin
    have hyI : Hidden (∀ x ∈ a :: l.drop c, I64 x) := by
      intro x hx
      rcases List.mem_cons.1 hx with rfl | hx
      · exact ha
      · exact (show ∀ x ∈ l, I64 x from hI) x (List.mem_of_mem_drop hx)
    have hrl : Hidden ((a :: l.drop c).length = 1 + (len - c)) := by
      show _ = _
      rw [List.length_cons, show (l.drop c).length = len - c from hyl]
      omega
    clear hfin hT
    by_cases hcc : cap = c
    · subst hcc
      obtain rfl : cap = len := by omega
      have hnil : Hidden (l.drop cap = []) := by
        show _ = _
        apply List.drop_eq_nil_of_le
        rw [show l.length = cap from hlen]
        omega
      go_enter Tryd.func5, Tryd.ntmps5
      go_wp2_with (first
        | (go_at_call 6; refine kl.mono ?_; rintro e w1 ⟨rfl, g1⟩; have k1 := sum_walk b off cap cap (l.take cap) _ _ _ hxl t1 (by omega) hxI w1 (htake w1 g1); have k2 := sum_walk b off cap cap l _ _ _ hlen t2 (by omega) hI w1 (hcells w1 g1))
        | (go_at_call 11; first | (refine k1.mono ?_; rintro e w' ⟨rfl, rfl⟩; clear k1) | (refine k2.mono ?_; rintro e w' ⟨rfl, rfl⟩; clear k2))
        | (at_builtin; refine wpList_append_own _ rfl _ _ 28 rfl w1.heap.size 2 i0 (.int .i64 0) 1 8 Tryd.underlying28 hi hz0 hz1 hz2 rfl (by decide) _ 1 [.int .i64 a] rfl ?c0 ⟨b, off, none⟩ 0 0 [] rfl ?c1 ?c2 ?c3 ?c4 ?c5 ?c6 ?_))
      case c0 => exact own_one w1 a
      case c1 => rfl
      case c2 => intro j u hu; simp at hu
      case c3 => intro u hu; simp at hu
      case c4 => unfold maxLen; omega
      case c5 => omega
      case c6 => simp
      intro v' w2 hown hg hne
      have hrl1 : Hidden ((a :: l.drop cap).length = 1) := by show _ = _; rw [show l.drop cap = [] from hnil]; rfl
      obtain ⟨g', cap2, rfl, hcg, hK⟩ := own_row w1 w2 _ v' 1 (a :: l.drop cap) hrl1 (by rw [show l.drop cap = [] from hnil]; exact hown) hg hne
      have k3 := sum_walk g' 0 cap2 1 (a :: l.drop cap) _ _ _ hrl1 ht3 (by omega) hyI w2 hcg
      have hKK := g1.trans hK
      clear hown hg hne hcg hi hz0 hz1 hz2 hcells htake hyI hrl hrl1 hnil hyl hxl hxI ha hc
      rcases (show _ ∨ _ from hfinH) with ⟨rfl, rfl, rfl, rfl⟩ | ⟨rfl, rfl, rfl, hn1, hn2⟩
      · clear hfinH
        go_wp2_with (go_at_call 11; refine k3.mono ?_; rintro e w' ⟨rfl, rfl⟩)
        go_ret
        exact ⟨rfl, hKK⟩
      · clear hfinH
        go_wp2_with (go_at_call 11; refine k3.mono ?_; rintro e w' ⟨rfl, rfl⟩)
        go_ret
        exact ⟨rfl, hKK⟩
    · go_enter Tryd.func5, Tryd.ntmps5
      go_wp2_with (first
        | (go_at_call 6; refine kl.mono ?_; rintro e w1 ⟨rfl, g1⟩; have k1 := sum_walk b off cap c (l.take c) _ _ _ hxl t1 (by omega) hxI w1 (htake w1 g1); have k2 := sum_walk b off cap len l _ _ _ hlen t2 (by omega) hI w1 (hcells w1 g1))
        | (go_at_call 11; first | (refine k1.mono ?_; rintro e w' ⟨rfl, rfl⟩; clear k1) | (refine k2.mono ?_; rintro e w' ⟨rfl, rfl⟩; clear k2))
        | (at_builtin; refine wpList_append_own _ rfl _ _ 28 rfl w1.heap.size 2 i0 (.int .i64 0) 1 8 Tryd.underlying28 hi hz0 hz1 hz2 rfl (by decide) _ 1 [.int .i64 a] rfl ?d0 ⟨b, off + c, none⟩ (len - c) (cap - c) ((l.drop c).map fun x => .int .i64 x) rfl ?d1 ?d2 ?d3 ?d4 ?d5 ?d6 ?_))
      case d0 => exact own_one w1 a
      case d1 => rw [List.length_map, Nat.mul_one]; exact hyl
      case d2 =>
        intro j u hu
        rw [List.getElem?_map] at hu
        obtain ⟨x, hx, rfl⟩ := Option.map_eq_some_iff.1 hu
        rw [List.getElem?_drop] at hx
        have hcx := (show ∀ (i : Nat) (x : Int), l[i]? = some x → w1.cell? ⟨b, off + i, none⟩ = some (.int .i64 x) from hcells w1 g1) (c + j) x hx
        have hB : Below w1.heap.size w1 (w1.alloc (.cells #[.int .i64 a] 2)) := (Below.refl _ _).alloc (Nat.le_refl _) _
        have hb1 : b < w1.heap.size := Nat.lt_of_lt_of_le hbw g1.2
        rw [add_plain, hB.cell (by exact hb1), Nat.add_assoc]
        exact hcx
      case d3 =>
        intro u hu
        obtain ⟨x, _, rfl⟩ := List.mem_map.1 hu
        rfl
      case d4 => unfold maxLen; omega
      case d5 => omega
      case d6 => simp
      intro v' w2 hown hg hne
      obtain ⟨g', cap2, rfl, hcg, hK⟩ := own_row w1 w2 _ v' (1 + (len - c)) (a :: l.drop c) hrl (by rw [List.map_cons, List.map_drop]; exact hown) hg hne
      have k3 := sum_walk g' 0 cap2 (1 + (len - c)) (a :: l.drop c) _ _ _ hrl ht3 (by omega) hyI w2 hcg
      have hKK := g1.trans hK
      clear hown hg hne hcg hi hz0 hz1 hz2 hcells htake hyI hrl hyl hxl hxI ha hc
      rcases (show _ ∨ _ from hfinH) with ⟨rfl, rfl, rfl, rfl⟩ | ⟨rfl, rfl, rfl, hn1, hn2⟩
      · clear hfinH
        go_wp2_with (go_at_call 11; refine k3.mono ?_; rintro e w' ⟨rfl, rfl⟩)
        go_ret
        exact ⟨rfl, hKK⟩
      · clear hfinH
        have hn3 : n ≤ (len : Int) := by omega
        clear hn2
        go_wp2_with (go_at_call 11; refine k3.mono ?_; rintro e w' ⟨rfl, rfl⟩)
        go_ret
        exact ⟨rfl, hKK⟩
end Go.Proofs.YtoofbbojaoiadabDoor
