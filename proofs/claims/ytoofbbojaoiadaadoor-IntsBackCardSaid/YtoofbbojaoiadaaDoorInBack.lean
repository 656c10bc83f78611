/- IntsBack walked: there and back; what is read is the one text of its number. -/
import Derived.Test.YtoofbbojaoiadaaDoorInLive
import Derived.Test.YtoofbbojaoiadaaDoorInRDec
namespace Go.Proofs.YtoofbbojaoiadaaDoor
open Go.RowKit
set_option linter.unusedSimpArgs false
set_option linter.unusedVariables false

theorem dec_is (v : Int) (l : List UInt8) (hl : Lib.itoa v = l) (hv : I64 v) (w : World) (ht : Tab w) :
    Calls Tryd.prog 30 #[.int .i64 v] w fun r w' => r = .returned (.string ⟨l.toArray⟩) ∧ Kb w w' := hl ▸ dec_any v hv w ht
theorem read_is (l : List UInt8) (v p e : Int) (hres : readS l = (v, p, e)) (hl : l.length ≤ 9223372036854775807) (w : World) :
    Calls Tryd.prog 28 #[.string ⟨l.toArray⟩] w fun r w' => r = .returned (.tuple #[.int .i64 v, .int .i64 p, .int .i64 e]) ∧ Kb w w' := read_any l v p e hres hl w

theorem back_walk (v n f x p e : Int) (t s : List UInt8) (hv : I64 v) (hx : I64 x) (ht0 : Lib.itoa v = t) (htl : t.length ≤ 9223372036854775807) (hsl : s.length ≤ 9223372036854775807) (hr : readS t = (v, 0, 0)) (hn : natS t = (n, 0, f))
    (hnf : (f = 0 ∧ n = v ∧ 0 ≤ v) ∨ (f = 10 ∧ v < 0)) (hs : readS s = (x, p, e)) (hc : (e = 0 ∧ p = 0 ∧ Lib.itoa x = s) ∨ ((e == 0) = false ∧ (e != 0) = true ∧ x = 0 ∧ 0 ≤ p ∧ p ≤ s.length)) (w : World) (htab : Tab w) :
    Calls Tryd.prog 8 #[.int .i64 v, .string ⟨s.toArray⟩] w fun e w' => e = .returned (.bool true) ∧ Kb w w' := by
  have kl := live_any w htab
  have kn := nat_any t n 0 f hn htl
  have hlen := str_len s
  clear hn
  rcases hnf with ⟨rfl, rfl, hv0⟩ | ⟨rfl, hv0⟩
  · rcases hc with ⟨rfl, rfl, hxs⟩ | ⟨he1, he2, rfl, hp0, hp1⟩
    all_goals
      go_enter Tryd.func8, Tryd.ntmps8
      go_wp2_with (first
        | (go_at_call 23; refine kl.mono ?_; rintro e w1 ⟨rfl, g1⟩; have ht1 := tab_kb htab g1)
        | (go_at_call 30; refine (dec_is _ _ (by with_reducible assumption) (by with_reducible assumption) _ (by with_reducible assumption)).mono ?_; rintro e w' ⟨rfl, g⟩; have htt := tab_kb (by with_reducible assumption) g)
        | (go_at_call 28; refine (read_is _ _ _ _ (by with_reducible assumption) (by with_reducible assumption) _).mono ?_; rintro e w' ⟨rfl, g⟩; have htt := tab_kb (by with_reducible assumption) g)
        | (go_at_call 26; refine (kn _).mono ?_; rintro e w' ⟨rfl, g⟩; have htt := tab_kb (by with_reducible assumption) g))
      go_ret
      refine ⟨rfl, ?_⟩
      repeat (first | assumption | (refine Kb.trans (by with_reducible assumption) ?_))
  · rcases hc with ⟨rfl, rfl, hxs⟩ | ⟨he1, he2, rfl, hp0, hp1⟩
    all_goals
      go_enter Tryd.func8, Tryd.ntmps8
      go_wp2_with (first
        | (go_at_call 23; refine kl.mono ?_; rintro e w1 ⟨rfl, g1⟩; have ht1 := tab_kb htab g1)
        | (go_at_call 30; refine (dec_is _ _ (by with_reducible assumption) (by with_reducible assumption) _ (by with_reducible assumption)).mono ?_; rintro e w' ⟨rfl, g⟩; have htt := tab_kb (by with_reducible assumption) g)
        | (go_at_call 28; refine (read_is _ _ _ _ (by with_reducible assumption) (by with_reducible assumption) _).mono ?_; rintro e w' ⟨rfl, g⟩; have htt := tab_kb (by with_reducible assumption) g)
        | (go_at_call 26; refine (kn _).mono ?_; rintro e w' ⟨rfl, g⟩; have htt := tab_kb (by with_reducible assumption) g))
      go_ret
      refine ⟨rfl, ?_⟩
      repeat (first | assumption | (refine Kb.trans (by with_reducible assumption) ?_))

theorem intsBack.walk (v : Int) (s : List UInt8) (w0 : (Lit.int .i64 v).wf = true) (hs : s.length ≤ 9223372036854775807) (w : World) (ht : Tab w) :
    Calls Tryd.prog 8 #[.int .i64 v, .string ⟨s.toArray⟩] w fun e w' => e = .returned (.bool true) ∧ Kb w w' := by
  have hv := wf_I w0
  obtain ⟨⟨x, p, e⟩, hx⟩ : ∃ z, readS s = z := ⟨_, rfl⟩
  obtain ⟨f1, f2⟩ := read_facts s x p e hx
  have hl := (itoa_len v hv).1
  have hxI : I64 x := by
    by_cases he : e = 0
    · obtain ⟨_, _, h3, h4⟩ := f1 he
      exact ⟨h3, h4⟩
    · obtain ⟨h1, _⟩ := f2 he
      exact ⟨by omega, by omega⟩
  have hc : (e = 0 ∧ p = 0 ∧ Lib.itoa x = s) ∨ ((e == 0) = false ∧ (e != 0) = true ∧ x = 0 ∧ 0 ≤ p ∧ p ≤ s.length) := by
    by_cases he : e = 0
    · obtain ⟨h1, h2, _⟩ := f1 he
      exact Or.inl ⟨he, h1, h2⟩
    · obtain ⟨h1, h2, h3⟩ := f2 he
      exact Or.inr ⟨by simpa using he, by simpa using he, h1, h2, h3⟩
  by_cases c : 0 ≤ v
  · exact back_walk v v 0 x p e _ s hv hxI rfl (by omega) hs (read_dec v hv.1 hv.2) (nat_dec v c hv.2) (Or.inl ⟨rfl, rfl, c⟩) hx hc w ht
  · exact back_walk v 0 10 x p e _ s hv hxI rfl (by omega) hs (read_dec v hv.1 hv.2) (nat_dec_neg v (by omega)) (Or.inr ⟨rfl, by omega⟩) hx hc w ht
end Go.Proofs.YtoofbbojaoiadaaDoor
