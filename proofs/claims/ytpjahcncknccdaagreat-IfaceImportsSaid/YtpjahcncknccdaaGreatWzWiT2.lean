/- What a Reader takes: texts and raw bytes. -/
import Derived.Test.YtpjahcncknccdaaGreatWzWiT
import Derived.Test.YtpjahcncknccdaaGreatWzWiLive
namespace Go.Proofs.YtpjahcncknccdaaGreat.Wi
open Go.RowKit
set_option linter.unusedSimpArgs false
set_option linter.unusedVariables false
set_option maxRecDepth 20000

theorem take_shaped (q : Nat) (rest : List UInt8) (n : Nat) (w : World) (hr : Rd w q rest 0) (hn : n ≤ rest.length) :
    Calls Tryz.prog 80 #[rp q, .int .i64 (n : Int)] w fun e w' => ∃ ao cap, e = .returned (.slice ao n cap) ∧ Sl w' (.slice ao n cap) (bc (rest.take n)) ∧ Rd w' q (rest.drop n) 0 ∧ Fr (fun k => k = q) w w' := by
  refine (take_in q rest n w hr hn).mono ?_
  rintro e w' ⟨v, rfl, h1, h2⟩
  obtain ⟨ao, cap, e1, _⟩ := id h1
  rw [bc_length, List.length_take, Nat.min_eq_left hn] at e1
  subst e1
  exact ⟨_, _, rfl, h1, h2⟩
theorem take_gave (q : Nat) (rest : List UInt8) (n : Int) (w : World) (hr : Rd w q rest 0) (hn : (rest.length : Int) < n) :
    Calls Tryz.prog 80 #[rp q, .int .i64 n] w (Gave q w 40) := by
  refine (take_out q rest n w hr hn).mono ?_
  rintro e w' ⟨rfl, rfl⟩
  exact ⟨rfl, ⟨_, hr⟩, Fr.refl _ _⟩
theorem Gave.past {q : Nat} {w w1 w' : World} {c : Int} {e : Ending} (hf : Fr (fun k => k = q) w w1) (h : Gave q w1 c e w') : Gave q w c e w' := ⟨h.1, h.2.1, hf.same h.2.2⟩

theorem takeText_in (q : Nat) (rest : List UInt8) (N : Nat) (most : Int) (w : World) (hl : 4 ≤ rest.length) (hN : Hidden (numS (rest.take 4) = N)) (hlt : N < 2147483648) (hm : (N : Int) ≤ most) (hr : Rd w q rest 0) (hb : N ≤ (rest.drop 4).length) :
    Calls Tryz.prog 50 #[rp q, .int .i64 most] w (Took q w (Is (.string ⟨((rest.drop 4).take N).toArray⟩)) ((rest.drop 4).drop N)) := by
  have kc := takeCount_in q rest N most w hl hN hlt hm hr
  obtain ⟨D, hD⟩ : ∃ D, rest.drop 4 = D := ⟨_, rfl⟩
  rw [hD] at kc hb ⊢
  have kt := fun w1 (h : Rd w1 q D 0) => take_shaped q D N w1 h hb
  unfold Took Is at *
  clear hr hN hD hb
  go_enter Tryz.func50, Tryz.ntmps50
  go_wp2_with (first
    | (go_at_call 81; refine kc.mono ?_; rintro e w1 ⟨⟨v, rfl, rfl⟩, h1, h2⟩)
    | (go_at_call 80; refine (kt _ h1).mono ?_; rintro e w2 ⟨ao, cap, rfl, h3, h4, h5⟩; have hs := run_str w2 _ _ h3))
  go_ret
  exact ⟨⟨_, rfl, rfl⟩, h4, h2.same h5⟩
theorem takeText_out (q : Nat) (rest : List UInt8) (N : Nat) (most : Int) (w : World) (hl : 4 ≤ rest.length) (hN : Hidden (numS (rest.take 4) = N)) (hlt : N < 2147483648) (hm : (N : Int) ≤ most) (hr : Rd w q rest 0) (hb : (rest.drop 4).length < N) :
    Calls Tryz.prog 50 #[rp q, .int .i64 most] w (Gave q w 40) := by
  have kc := takeCount_in q rest N most w hl hN hlt hm hr
  obtain ⟨D, hD⟩ : ∃ D, rest.drop 4 = D := ⟨_, rfl⟩
  rw [hD] at kc hb
  have kt := fun w1 (h : Rd w1 q D 0) => take_gave q D N w1 h (by omega)
  unfold Took Is Gave giveUp at *
  clear hr hN hD hb
  go_enter Tryz.func50, Tryz.ntmps50
  go_wp2_with (first
    | (go_at_call 81; refine kc.mono ?_; rintro e w1 ⟨⟨v, rfl, rfl⟩, h1, h2⟩)
    | (go_at_call 80; refine (kt _ h1).mono ?_; rintro e w2 ⟨rfl, h4, h5⟩))
  exact ⟨rfl, rfl, h4, h2.same h5⟩
theorem takeText_gave (q : Nat) (c most : Int) (w : World) (kn : Calls Tryz.prog 81 #[rp q, .int .i64 most] w (Gave q w c)) :
    Calls Tryz.prog 50 #[rp q, .int .i64 most] w (Gave q w c) := by
  unfold Gave giveUp at *
  go_enter Tryz.func50, Tryz.ntmps50
  go_wp2_with (go_at_call 81; refine kn.mono ?_; rintro e w1 ⟨rfl, h1, h2⟩)
  exact ⟨rfl, rfl, h1, h2⟩
end Go.Proofs.YtpjahcncknccdaaGreat.Wi
