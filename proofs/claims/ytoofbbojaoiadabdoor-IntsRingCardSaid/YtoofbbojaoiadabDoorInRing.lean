/- IntsRing walked: sums and products in any order; a product of a sum. -/
import Derived.Test.YtoofbbojaoiadabDoorInLive
namespace Go.Proofs.YtoofbbojaoiadabDoor
open Go.RowKit
set_option linter.unusedSimpArgs false
set_option linter.unusedVariables false

theorem add_is (a b v e : Int) (ha : I64 a) (hb : I64 b) (hv : fitV (a + b) = v) (he : fitE (a + b) = e) (w : World) :
    Calls Tryd.prog 7 #[.int .i64 a, .int .i64 b] w fun e' w' => e' = .returned (.tuple #[.int .i64 v, .int .i64 e]) ∧ w = w' := hv ▸ he ▸ add_any a b ha hb w
theorem mul_is (a b v e : Int) (ha : I64 a) (hb : I64 b) (hv : fitV (a * b) = v) (he : fitE (a * b) = e) (w : World) :
    Calls Tryd.prog 8 #[.int .i64 a, .int .i64 b] w fun e' w' => e' = .returned (.tuple #[.int .i64 v, .int .i64 e]) ∧ w = w' := hv ▸ he ▸ mul_any a b ha hb w

theorem ring_walk (a b c s e p g x f y h m k n o : Int) (ha : I64 a) (hb : I64 b) (hc : I64 c) (hs : I64 s) (hx : I64 x) (hy : I64 y)
    (a1 : fitV (a + b) = s) (a2 : fitE (a + b) = e) (b1 : fitV (b + a) = s) (b2 : fitE (b + a) = e) (p1 : fitV (a * b) = p) (p2 : fitE (a * b) = g) (q1 : fitV (b * a) = p) (q2 : fitE (b * a) = g)
    (x1 : fitV (a * c) = x) (x2 : fitE (a * c) = f) (y1 : fitV (b * c) = y) (y2 : fitE (b * c) = h) (m1 : fitV (s * c) = m) (m2 : fitE (s * c) = k) (n1 : fitV (x + y) = n) (n2 : fitE (x + y) = o)
    (hfin : (f != 0) = true ∨ ((f != 0) = false ∧ (h != 0) = true) ∨ ((f != 0) = false ∧ (h != 0) = false ∧ (e != 0) = true) ∨ ((f != 0) = false ∧ (h != 0) = false ∧ (e != 0) = false ∧ (k != 0) = true) ∨ ((f != 0) = false ∧ (h != 0) = false ∧ (e != 0) = false ∧ (k != 0) = false ∧ (o == 0) = true ∧ m = n))
    (w : World) (ht : Tab w) :
    Calls Tryd.prog 3 #[.int .i64 a, .int .i64 b, .int .i64 c] w fun e w' => e = .returned (.bool true) ∧ Kb w w' := by
  have kl := live_any w ht
  rcases hfin with c1 | ⟨c1, c2⟩ | ⟨c1, c2, c3⟩ | ⟨c1, c2, c3, c4⟩ | ⟨c1, c2, c3, c4, c5, rfl⟩
  all_goals
    go_enter Tryd.func3, Tryd.ntmps3
    go_wp2_with (first
      | (go_at_call 6; refine kl.mono ?_; rintro e w1 ⟨rfl, g1⟩)
      | (go_at_call 7; refine (add_is _ _ _ _ (by with_reducible assumption) (by with_reducible assumption) (by with_reducible assumption) (by with_reducible assumption) _).mono ?_; rintro e w' ⟨rfl, rfl⟩)
      | (go_at_call 8; refine (mul_is _ _ _ _ (by with_reducible assumption) (by with_reducible assumption) (by with_reducible assumption) (by with_reducible assumption) _).mono ?_; rintro e w' ⟨rfl, rfl⟩))
    go_ret
    exact ⟨rfl, g1⟩

theorem intsRing.walk (a b c : Int) (w0 : (Lit.int .i64 a).wf = true) (w1 : (Lit.int .i64 b).wf = true) (w2 : (Lit.int .i64 c).wf = true) (w : World) (ht : Tab w) :
    Calls Tryd.prog 3 #[.int .i64 a, .int .i64 b, .int .i64 c] w fun e w' => e = .returned (.bool true) ∧ Kb w w' := by
  have ha := wf_I w0
  have hb := wf_I w1
  have hc := wf_I w2
  refine ring_walk a b c (fitV (a + b)) (fitE (a + b)) (fitV (a * b)) (fitE (a * b)) (fitV (a * c)) (fitE (a * c)) (fitV (b * c)) (fitE (b * c)) (fitV (fitV (a + b) * c)) (fitE (fitV (a + b) * c)) (fitV (fitV (a * c) + fitV (b * c))) (fitE (fitV (a * c) + fitV (b * c)))
    ha hb hc (fitV_I _) (fitV_I _) (fitV_I _) rfl rfl (by rw [Int.add_comm]) (by rw [Int.add_comm]) rfl rfl (by rw [Int.mul_comm]) (by rw [Int.mul_comm]) rfl rfl rfl rfl rfl rfl rfl rfl ?_ w ht
  have bz : ∀ z : Int, (fitE z != 0) = true ∨ ((fitE z != 0) = false ∧ I64 z) := by
    intro z
    by_cases h : I64 z
    · right; rw [(fitV_in h).2]; exact ⟨rfl, h⟩
    · left; rw [(fitV_out h).2]; rfl
  rcases bz (a * c) with h1 | ⟨h1, i1⟩
  · exact Or.inl h1
  rcases bz (b * c) with h2 | ⟨h2, i2⟩
  · exact Or.inr (Or.inl ⟨h1, h2⟩)
  rcases bz (a + b) with h3 | ⟨h3, i3⟩
  · exact Or.inr (Or.inr (Or.inl ⟨h1, h2, h3⟩))
  rw [(fitV_in i1).1, (fitV_in i2).1, (fitV_in i3).1]
  rcases bz ((a + b) * c) with h4 | ⟨h4, i4⟩
  · exact Or.inr (Or.inr (Or.inr (Or.inl ⟨h1, h2, h3, h4⟩)))
  · have e : a * c + b * c = (a + b) * c := (Int.add_mul a b c).symm
    rw [e]
    exact Or.inr (Or.inr (Or.inr (Or.inr ⟨h1, h2, h3, h4, by rw [(fitV_in i4).2]; rfl, rfl⟩)))
end Go.Proofs.YtoofbbojaoiadabDoor
