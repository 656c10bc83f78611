/- What a Reader takes: single values. -/
import Derived.Test.YtpjahcncknccdaaGreatWzWiR3
import Derived.Laws.IdiomStrings
namespace Go.Proofs.YtpjahcncknccdaaGreat.Wi
open Go.RowKit
set_option linter.unusedSimpArgs false
set_option linter.unusedVariables false
set_option maxRecDepth 20000

/-- A value was taken. -/
def Took (q : Nat) (w : World) (A : Value → World → Prop) (rest' : List UInt8) (e : Ending) (w' : World) : Prop := (∃ v, e = .returned v ∧ A v w') ∧ Rd w' q rest' 0 ∧ Fr (fun k => k = q) w w'
/-- It gave up. -/
def Gave (q : Nat) (w : World) (c : Int) (e : Ending) (w' : World) : Prop := e = giveUp c ∧ (∃ rest', Rd w' q rest' 0) ∧ Fr (fun k => k = q) w w'
def Is (x : Value) : Value → World → Prop := fun v _ => v = x

theorem number_gave (q : Nat) (rest : List UInt8) (n : Int) (w : World) (hr : Rd w q rest 0) (hn : (rest.length : Int) < n) :
    Calls Tryz.prog 98 #[rp q, .int .i64 n] w (Gave q w 40) := by
  refine (number_out q rest n w hr hn).mono ?_
  rintro e w' ⟨rfl, rfl⟩
  exact ⟨rfl, ⟨_, hr⟩, Fr.refl _ _⟩

theorem takeByte_in (q : Nat) (c : UInt8) (r : List UInt8) (w : World) (hr : Rd w q (c :: r) 0) :
    Calls Tryz.prog 100 #[rp q] w (Took q w (Is (.int .u8 (c.toNat : Int))) r) := by
  have kn := number_in q (c :: r) 1 w hr (by simp) (by omega)
  simp only [List.take_succ_cons, List.take_zero, List.drop_succ_cons, List.drop_zero] at kn
  have e1 : numS [c] = c.toNat := by simp [numS]
  rw [e1] at kn
  have hc := c.toNat_lt
  clear hr e1
  go_enter Tryz.func100, Tryz.ntmps100
  go_wp2_with (go_at_call 98; refine kn.mono ?_; rintro e w1 ⟨rfl, h1, h2⟩)
  go_ret
  refine ⟨⟨_, rfl, ?_⟩, h1, h2⟩
  simp [Is]
theorem takeByte_out (q : Nat) (w : World) (hr : Rd w q [] 0) :
    Calls Tryz.prog 100 #[rp q] w (Gave q w 40) := by
  have kn := number_gave q [] 1 w hr (by simp)
  clear hr
  unfold Gave giveUp at *
  go_enter Tryz.func100, Tryz.ntmps100
  go_wp2_with (go_at_call 98; refine kn.mono ?_; rintro e w1 ⟨rfl, h1, h2⟩)
  exact ⟨rfl, rfl, h1, h2⟩

theorem takeLong_in (q : Nat) (rest : List UInt8) (w : World) (hl : 8 ≤ rest.length) (hr : Rd w q rest 0) :
    Calls Tryz.prog 102 #[rp q] w (Took q w (Is (.int .u64 (numS (rest.take 8) : Int))) (rest.drop 8)) := by
  have kn := number_in q rest 8 w hr hl (by omega)
  unfold Took Is at *
  clear hr
  go_enter Tryz.func102, Tryz.ntmps102
  go_wp2_with (go_at_call 98; refine kn.mono ?_; rintro e w1 ⟨rfl, h1, h2⟩)
  go_ret
  exact ⟨⟨_, rfl, rfl⟩, h1, h2⟩
theorem takeLong_out (q : Nat) (rest : List UInt8) (w : World) (hl : rest.length < 8) (hr : Rd w q rest 0) :
    Calls Tryz.prog 102 #[rp q] w (Gave q w 40) := by
  have kn := number_gave q rest 8 w hr (by omega)
  clear hr
  unfold Gave giveUp at *
  go_enter Tryz.func102, Tryz.ntmps102
  go_wp2_with (go_at_call 98; refine kn.mono ?_; rintro e w1 ⟨rfl, h1, h2⟩)
  exact ⟨rfl, rfl, h1, h2⟩

theorem takeInt_in (q : Nat) (rest : List UInt8) (N : Nat) (w : World) (hl : 4 ≤ rest.length) (hN : Hidden (numS (rest.take 4) = N)) (hlt : N < 2147483648) (hr : Rd w q rest 0) :
    Calls Tryz.prog 83 #[rp q] w (Took q w (Is (.int .i64 (N : Int))) (rest.drop 4)) := by
  have kn := number_in q rest 4 w hr hl (by omega)
  rw [show numS (rest.take 4) = N from hN] at kn
  unfold Took Is at *
  clear hr hN
  go_enter Tryz.func83, Tryz.ntmps83
  go_wp2_with (go_at_call 98; refine kn.mono ?_; rintro e w1 ⟨rfl, h1, h2⟩)
  go_ret
  refine ⟨⟨_, rfl, ?_⟩, h1, h2⟩
  rfl
theorem takeInt_bad (q : Nat) (rest : List UInt8) (N : Nat) (w : World) (hl : 4 ≤ rest.length) (hN : Hidden (numS (rest.take 4) = N)) (hlt : 2147483647 < N) (hr : Rd w q rest 0) :
    Calls Tryz.prog 83 #[rp q] w (Gave q w 42) := by
  have kn := number_in q rest 4 w hr hl (by omega)
  rw [show numS (rest.take 4) = N from hN] at kn
  unfold Gave giveUp at *
  clear hr hN
  go_enter Tryz.func83, Tryz.ntmps83
  go_wp2_with (go_at_call 98; refine kn.mono ?_; rintro e w1 ⟨rfl, h1, h2⟩)
  exact ⟨rfl, rfl, ⟨_, h1⟩, h2⟩
theorem takeInt_out (q : Nat) (rest : List UInt8) (w : World) (hl : rest.length < 4) (hr : Rd w q rest 0) :
    Calls Tryz.prog 83 #[rp q] w (Gave q w 40) := by
  have kn := number_gave q rest 4 w hr (by omega)
  clear hr
  unfold Gave giveUp at *
  go_enter Tryz.func83, Tryz.ntmps83
  go_wp2_with (go_at_call 98; refine kn.mono ?_; rintro e w1 ⟨rfl, h1, h2⟩)
  exact ⟨rfl, rfl, h1, h2⟩

theorem takeCount_in (q : Nat) (rest : List UInt8) (N : Nat) (most : Int) (w : World) (hl : 4 ≤ rest.length) (hN : Hidden (numS (rest.take 4) = N)) (hlt : N < 2147483648) (hm : (N : Int) ≤ most) (hr : Rd w q rest 0) :
    Calls Tryz.prog 81 #[rp q, .int .i64 most] w (Took q w (Is (.int .i64 (N : Int))) (rest.drop 4)) := by
  have kn := takeInt_in q rest N w hl hN hlt hr
  unfold Took Is at *
  clear hr hN
  go_enter Tryz.func81, Tryz.ntmps81
  go_wp2_with (go_at_call 83; refine kn.mono ?_; rintro e w1 ⟨⟨v, rfl, rfl⟩, h1, h2⟩)
  go_ret
  exact ⟨⟨_, rfl, rfl⟩, h1, h2⟩
theorem takeCount_big (q : Nat) (rest : List UInt8) (N : Nat) (most : Int) (w : World) (hl : 4 ≤ rest.length) (hN : Hidden (numS (rest.take 4) = N)) (hlt : N < 2147483648) (hm : most < (N : Int)) (hr : Rd w q rest 0) :
    Calls Tryz.prog 81 #[rp q, .int .i64 most] w (Gave q w 3) := by
  have kn := takeInt_in q rest N w hl hN hlt hr
  unfold Took Is Gave giveUp at *
  clear hr hN
  go_enter Tryz.func81, Tryz.ntmps81
  go_wp2_with (go_at_call 83; refine kn.mono ?_; rintro e w1 ⟨⟨v, rfl, rfl⟩, h1, h2⟩)
  exact ⟨rfl, rfl, ⟨_, h1⟩, h2⟩
theorem takeCount_gave (q : Nat) (c most : Int) (w : World) (kn : Calls Tryz.prog 83 #[rp q] w (Gave q w c)) :
    Calls Tryz.prog 81 #[rp q, .int .i64 most] w (Gave q w c) := by
  unfold Gave giveUp at *
  go_enter Tryz.func81, Tryz.ntmps81
  go_wp2_with (go_at_call 83; refine kn.mono ?_; rintro e w1 ⟨rfl, h1, h2⟩)
  exact ⟨rfl, rfl, h1, h2⟩
end Go.Proofs.YtpjahcncknccdaaGreat.Wi
